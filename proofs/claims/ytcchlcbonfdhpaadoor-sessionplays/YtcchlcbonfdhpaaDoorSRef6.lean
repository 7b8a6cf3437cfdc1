/- The reference's Live and Begin, each by a contract. (Printed by gen/refscan.py.) -/
import Derived.Test.YtcchlcbonfdhpaaDoorSRef5
import Derived.OrdersHeld
namespace Go.Proofs.YtcchlcbonfdhpaaDoor
open Go.RowKit Go.Maps Go.Sort Go.Shelf
set_option linter.unusedVariables false
set_option maxRecDepth 20000

/-- a region that is entered: what is told of a panic does not hang on the frame -/
theorem enterQ {P : Program} {ops : Array Oper} {Q : Exit → Act → World → Prop} {S : World → Prop} {id : Nat} {a : Act} {w : World} (hm : P.follows .mixedOrders = true) (hS : S w.drew) (hQ : ∀ (d : Option Tmp) (v : Value) c a w, Q (.panic c) (Act.put a d v) w → Q (.panic c) a w)
    (h : (∀ (d : Option Tmp) (v : Value) c a w, Q (.panic c) (Act.put a d v) w → Q (.panic c) a w) → S w.drew → wpAnyH P .any ops Q S ops.size (Array.replicate ops.size false) a w.drew) : (Code.region id ops true).wp P Q a w :=
  wp_region_held_drew hm hS (h hQ)
/-- an operation that yields a value -/
theorem takeH {P : Program} {ops : Array Oper} {Q : Exit → Act → World → Prop} {md : Region.Mode} {S : World → Prop} {fuel : Nat} {listed : Array Bool} {a : Act} {w : World} (hQ : ∀ (d : Option Tmp) (v : Value) c a w, Q (.panic c) (Act.put a d v) w → Q (.panic c) a w) (i : Nat) (d : Option Tmp) (v : Value) (oi : Oper) (hi : ops[i]? = some oi) (hd : oi.dst = d)
    (hs : Region.noSelect ops = true) (hf : Region.free md ops listed i = true) (hr : (Region.ready md ops listed).contains i = true) (hw : Region.wanted oi (yielded ops a.tmps) = true) (hy : ∀ w, S w → (execOp a.eval oi).run P w = .ok (.value v) w) (hS : S w)
    (h : wpAnyH P md ops Q S fuel (listed.setIfInBounds i true) (a.put d v) w) : wpAnyH P md ops Q S (fuel + 1) listed a w := by
  subst hd
  exact wpAnyH_take hi hs hf hr (fun c a w => hQ _ _ c a w) (Or.inl ⟨hw, hy⟩) hS h
/-- an operation that the guard passes over -/
theorem skipH {P : Program} {ops : Array Oper} {Q : Exit → Act → World → Prop} {md : Region.Mode} {S : World → Prop} {fuel : Nat} {listed : Array Bool} {a : Act} {w : World} (hQ : ∀ (d : Option Tmp) (v : Value) c a w, Q (.panic c) (Act.put a d v) w → Q (.panic c) a w) (i : Nat) (d : Option Tmp) (oi : Oper) (hi : ops[i]? = some oi) (hd : oi.dst = d)
    (hs : Region.noSelect ops = true) (hf : Region.free md ops listed i = true) (hr : (Region.ready md ops listed).contains i = true) (hw : Region.wanted oi (yielded ops a.tmps) = false) (hS : S w)
    (h : wpAnyH P md ops Q S fuel (listed.setIfInBounds i true) (a.put d undef) w) : wpAnyH P md ops Q S (fuel + 1) listed a w := by
  subst hd
  exact wpAnyH_take hi hs hf hr (fun c a w => hQ _ _ c a w) (Or.inr ⟨hw, rfl⟩) hS h

theorem scan_keep {w w' : World} {r b o k g n cap : Nat} {x : Option Addr} {s : Sess} {t u : ByteArray} (hb : Below w.heap.size w w') (c2 : w.cell? ⟨r, 2, none⟩ = some (.slice x n cap)) (d0 : w.cell? ⟨b, o + k * 5, none⟩ = some (.int .i64 s.id)) (d1 : w.cell? ⟨b, o + k * 5 + 1, none⟩ = some (.string s.ten)) (d2 : w.cell? ⟨b, o + k * 5 + 2, none⟩ = some (.string s.usr)) (d3 : w.cell? ⟨b, o + k * 5 + 3, none⟩ = some (.int .i64 s.since)) (d4 : w.cell? ⟨b, o + k * 5 + 4, none⟩ = some (.int .i64 s.used)) (q0 : w.cell? ⟨g, 0, none⟩ = some (.string t)) (q1 : w.cell? ⟨g, 1, none⟩ = some (.string u)) :
    w'.cell? ⟨r, 2, none⟩ = some (.slice x n cap) ∧ w'.cell? ⟨b, o + k * 5, none⟩ = some (.int .i64 s.id) ∧ w'.cell? ⟨b, o + k * 5 + 1, none⟩ = some (.string s.ten) ∧ w'.cell? ⟨b, o + k * 5 + 2, none⟩ = some (.string s.usr) ∧ w'.cell? ⟨b, o + k * 5 + 3, none⟩ = some (.int .i64 s.since) ∧ w'.cell? ⟨b, o + k * 5 + 4, none⟩ = some (.int .i64 s.used) ∧ w'.cell? ⟨g, 0, none⟩ = some (.string t) ∧ w'.cell? ⟨g, 1, none⟩ = some (.string u) :=
  ⟨(hb.cell (World.block_lt_of_cell? _ _ c2)).trans c2, (hb.cell (World.block_lt_of_cell? _ _ d0)).trans d0, (hb.cell (World.block_lt_of_cell? _ _ d1)).trans d1, (hb.cell (World.block_lt_of_cell? _ _ d2)).trans d2, (hb.cell (World.block_lt_of_cell? _ _ d3)).trans d3, (hb.cell (World.block_lt_of_cell? _ _ d4)).trans d4, (hb.cell (World.block_lt_of_cell? _ _ q0)).trans q0, (hb.cell (World.block_lt_of_cell? _ _ q1)).trans q1⟩

theorem live_snoc {l : List Sess} {f : Sess → Bool} {k : Nat} {s : Sess} (h : l[k]? = some s) : (l.take (k + 1)).filter f = (l.take k).filter f ++ (if f s then [s] else []) := by
  rw [take_snoc_get h, List.filter_append]
  congr 1
  by_cases hf : f s = true <;> simp [hf]
theorem filt_len (l : List Sess) (f : Sess → Bool) (k : Nat) : ((l.take k).filter f).length ≤ l.length := by
  have h1 := List.length_filter_le f (l.take k)
  have h2 : (l.take k).length ≤ l.length := by rw [List.length_take]; omega
  omega
theorem own_no {t u : ByteArray} {s : Sess} (h : ¬ (s.ten.toList = t.toList ∧ s.usr.toList = u.toList)) : ownB t u s = false := by
  unfold ownB
  rw [Bool.and_eq_false_iff]
  by_cases c1 : s.ten.toList = t.toList
  · right
    simp
    exact fun c2 => h ⟨c1, c2⟩
  · left
    simp [c1]

set_option maxHeartbeats 16000000 in
theorem rLive_any {w : World} {B r : Nat} {a : Option Addr} {cap : Nat} {T : Tab} (h : RTab w B r a cap T) (ok : TabOk T) (hl : T.l.length ≤ 1000000000) (t u : ByteArray) (now : Int) :
    Calls Tryd.prog 30 #[.pointer (some ⟨r, 0, none⟩), .agg #[.string t, .string u], .int .i64 now] w fun e w' => ∃ v, e = .returned (.tuple #[v, .int .i64 (timeErr now T.noted)]) ∧ w'.ownsRow w.heap.size 42 5 v (tLive T t u now).length (sCells (tLive T t u now)) ∧ Below w.heap.size w w' := by
  have hr := h.lt
  have hb2 : Below w.heap.size w (w.alloc (.cells #[.string t, .string u] 30)) := (Below.refl _ w).alloc (Nat.le_refl _) _
  have h2 := h.below hb2
  have Hte := rTime_any h2 now
  by_cases e0 : timeErr now T.noted = 0
  · have ea : tLive T t u now = T.l.filter (liveB t u now) := by unfold tLive; rw [if_neg (by simp [e0])]
    rw [e0] at Hte ⊢
    rw [ea]
    have H := hid h
    have Htm := hid ok.times
    clear h h2 ok e0 ea
    go_enter Tryd.func30, Tryd.ntmps30
    go_wp2_with (go_at_call 43; refine Hte.mono ?_; rintro e w2 ⟨rfl, rfl⟩)
    go_loopw [9, 10] (fun v i wr => ∃ k : Nat, k ≤ T.l.length ∧ i = .int .i64 k ∧ wr.ownsRow (w.heap.size + 1) 42 5 v ((T.l.take k).filter (liveB t u now)).length (sCells ((T.l.take k).filter (liveB t u now))) ∧ Below w.heap.size w wr ∧ w.heap.size < wr.heap.size ∧ wr.cell? ⟨w.heap.size, 0, none⟩ = some (.string t) ∧ wr.cell? ⟨w.heap.size, 1, none⟩ = some (.string u))
      (fun _ i _ => T.l.length - (intOf i).toNat)
    case atStart => exact ⟨0, Nat.zero_le _, rfl, World.ownsRow_nil _ _ _ _, hb2, by simp, by rw [World.cell?_alloc_at _ _ _ _ rfl]; rfl, by rw [World.cell?_alloc_at _ _ _ _ rfl]; rfl⟩
    case round =>
      obtain ⟨k, hk, rfl, hrow, hb, hzr, q0, q1⟩ := hrel
      have Hrow := hid hrow
      have Hb := hid hb
      have hR := H.out.below hb
      have c2 := hR.c2
      clear hrow hb
      by_cases hlt : k < T.l.length
      · have Hg : Hid (T.l[k]? = some T.l[k]) := List.getElem?_eq_getElem hlt
        generalize T.l[k] = s at *
        obtain ⟨_, b, o, ea, d0, d1, d2, d3, d4⟩ := hR.sin.at Hg.out
        cases ea
        have Hsn := hid (live_snoc (f := liveB t u now) Hg.out)
        have hfl := filt_len T.l (liveB t u now) k
        have Hov := hid (fun w => rOver_any s now w (Htm.out s (List.mem_of_getElem? Hg.out)))
        clear hR
        by_cases h1 : s.ten.toList = t.toList ∧ s.usr.toList = u.toList
        · obtain ⟨h1, h1'⟩ := h1
          have Ho : Hid (ownB t u s = true) := by show _ = _; unfold ownB; simp [h1, h1']
          cases hf : overB s now
          · have Hf : Hid (liveB t u now s = true) := by show _ = _; unfold liveB; rw [Ho.out, hf]; rfl
            rw [hf] at Hov
            clear hf
            go_wp2
            refine enterQ (S := fun w9 => w9.cell? ⟨r, 2, none⟩ = some (.slice (some ⟨b, o, none⟩) T.l.length cap) ∧ w9.cell? ⟨b, o + k * 5, none⟩ = some (.int .i64 s.id) ∧ w9.cell? ⟨b, o + k * 5 + 1, none⟩ = some (.string s.ten) ∧ w9.cell? ⟨b, o + k * 5 + 2, none⟩ = some (.string s.usr) ∧ w9.cell? ⟨b, o + k * 5 + 3, none⟩ = some (.int .i64 s.since) ∧ w9.cell? ⟨b, o + k * 5 + 4, none⟩ = some (.int .i64 s.used) ∧ w9.cell? ⟨w.heap.size, 0, none⟩ = some (.string t) ∧ w9.cell? ⟨w.heap.size, 1, none⟩ = some (.string u)) (by kernel_rfl) ⟨c2, d0, d1, d2, d3, d4, q0, q1⟩ (fun d v c a w h => by cases d <;> exact h) (fun hQ hS => ?_)
            have HQ := hid hQ
            clear hQ
            refine takeH HQ.out 0 (some 26) (.pointer (some ⟨r, 0, none⟩)) _ rfl rfl (by kernel_rfl) (by kernel_rfl) (by kernel_rfl) (by kernel_rfl) (fun w0 ⟨s1, s2, s3, s4, s5, s6, s7, s8⟩ => by go_simp) hS ?_
            simp only [Act.put, List.setIfInBounds_toArray, List.set_cons_zero, List.set_cons_succ]
            refine takeH HQ.out 1 (some 27) (.pointer (some ⟨r, 0, none⟩)) _ rfl rfl (by kernel_rfl) (by kernel_rfl) (by kernel_rfl) (by kernel_rfl) (fun w0 ⟨s1, s2, s3, s4, s5, s6, s7, s8⟩ => by go_simp) hS ?_
            simp only [Act.put, List.setIfInBounds_toArray, List.set_cons_zero, List.set_cons_succ]
            refine takeH HQ.out 2 (some 28) (.pointer (some ⟨r, 2, none⟩)) _ rfl rfl (by kernel_rfl) (by kernel_rfl) (by kernel_rfl) (by kernel_rfl) (fun w0 ⟨s1, s2, s3, s4, s5, s6, s7, s8⟩ => by go_simp) hS ?_
            simp only [Act.put, List.setIfInBounds_toArray, List.set_cons_zero, List.set_cons_succ]
            refine takeH HQ.out 3 (some 29) (.slice (some ⟨b, o, none⟩) T.l.length cap) _ rfl rfl (by kernel_rfl) (by kernel_rfl) (by kernel_rfl) (by kernel_rfl) (fun w0 ⟨s1, s2, s3, s4, s5, s6, s7, s8⟩ => by go_simp) hS ?_
            simp only [Act.put, List.setIfInBounds_toArray, List.set_cons_zero, List.set_cons_succ]
            refine takeH HQ.out 4 (some 30) (.int .i64 (k : Int)) _ rfl rfl (by kernel_rfl) (by kernel_rfl) (by kernel_rfl) (by kernel_rfl) (fun w0 ⟨s1, s2, s3, s4, s5, s6, s7, s8⟩ => by go_simp) hS ?_
            simp only [Act.put, List.setIfInBounds_toArray, List.set_cons_zero, List.set_cons_succ]
            refine takeH HQ.out 5 (some 31) (.pointer (some ⟨b, o + k * 5, none⟩)) _ rfl rfl (by kernel_rfl) (by kernel_rfl) (by kernel_rfl) (by kernel_rfl) (fun w0 ⟨s1, s2, s3, s4, s5, s6, s7, s8⟩ => by go_simp) hS ?_
            simp only [Act.put, List.setIfInBounds_toArray, List.set_cons_zero, List.set_cons_succ]
            refine takeH HQ.out 6 (some 32) (.pointer (some ⟨b, o + k * 5 + 1, none⟩)) _ rfl rfl (by kernel_rfl) (by kernel_rfl) (by kernel_rfl) (by kernel_rfl) (fun w0 ⟨s1, s2, s3, s4, s5, s6, s7, s8⟩ => by go_simp) hS ?_
            simp only [Act.put, List.setIfInBounds_toArray, List.set_cons_zero, List.set_cons_succ]
            refine takeH HQ.out 7 (some 33) (.agg #[.string s.ten, .string s.usr]) _ rfl rfl (by kernel_rfl) (by kernel_rfl) (by kernel_rfl) (by kernel_rfl) (fun w0 ⟨s1, s2, s3, s4, s5, s6, s7, s8⟩ => by go_simp) hS ?_
            simp only [Act.put, List.setIfInBounds_toArray, List.set_cons_zero, List.set_cons_succ]
            refine takeH HQ.out 8 (some 34) (.agg #[.string t, .string u]) _ rfl rfl (by kernel_rfl) (by kernel_rfl) (by kernel_rfl) (by kernel_rfl) (fun w0 ⟨s1, s2, s3, s4, s5, s6, s7, s8⟩ => by go_simp) hS ?_
            simp only [Act.put, List.setIfInBounds_toArray, List.set_cons_zero, List.set_cons_succ]
            refine takeH HQ.out 9 (some 35) (.bool true) _ rfl rfl (by kernel_rfl) (by kernel_rfl) (by kernel_rfl) (by kernel_rfl) (fun w0 ⟨s1, s2, s3, s4, s5, s6, s7, s8⟩ => by go_simp) hS ?_
            simp only [Act.put, List.setIfInBounds_toArray, List.set_cons_zero, List.set_cons_succ]
            refine takeH HQ.out 10 (some 36) (.bool true) _ rfl rfl (by kernel_rfl) (by kernel_rfl) (by kernel_rfl) (by kernel_rfl) (fun w0 ⟨s1, s2, s3, s4, s5, s6, s7, s8⟩ => by go_simp) hS ?_
            simp only [Act.put, List.setIfInBounds_toArray, List.set_cons_zero, List.set_cons_succ]
            refine takeH HQ.out 11 (some 37) (.pointer (some ⟨r, 0, none⟩)) _ rfl rfl (by kernel_rfl) (by kernel_rfl) (by kernel_rfl) (by kernel_rfl) (fun w0 ⟨s1, s2, s3, s4, s5, s6, s7, s8⟩ => by go_simp) hS ?_
            simp only [Act.put, List.setIfInBounds_toArray, List.set_cons_zero, List.set_cons_succ]
            refine takeH HQ.out 12 (some 38) (.pointer (some ⟨r, 0, none⟩)) _ rfl rfl (by kernel_rfl) (by kernel_rfl) (by kernel_rfl) (by kernel_rfl) (fun w0 ⟨s1, s2, s3, s4, s5, s6, s7, s8⟩ => by go_simp) hS ?_
            simp only [Act.put, List.setIfInBounds_toArray, List.set_cons_zero, List.set_cons_succ]
            refine takeH HQ.out 13 (some 39) (.pointer (some ⟨r, 2, none⟩)) _ rfl rfl (by kernel_rfl) (by kernel_rfl) (by kernel_rfl) (by kernel_rfl) (fun w0 ⟨s1, s2, s3, s4, s5, s6, s7, s8⟩ => by go_simp) hS ?_
            simp only [Act.put, List.setIfInBounds_toArray, List.set_cons_zero, List.set_cons_succ]
            refine takeH HQ.out 14 (some 40) (.slice (some ⟨b, o, none⟩) T.l.length cap) _ rfl rfl (by kernel_rfl) (by kernel_rfl) (by kernel_rfl) (by kernel_rfl) (fun w0 ⟨s1, s2, s3, s4, s5, s6, s7, s8⟩ => by go_simp) hS ?_
            simp only [Act.put, List.setIfInBounds_toArray, List.set_cons_zero, List.set_cons_succ]
            refine takeH HQ.out 15 (some 41) (.int .i64 (k : Int)) _ rfl rfl (by kernel_rfl) (by kernel_rfl) (by kernel_rfl) (by kernel_rfl) (fun w0 ⟨s1, s2, s3, s4, s5, s6, s7, s8⟩ => by go_simp) hS ?_
            simp only [Act.put, List.setIfInBounds_toArray, List.set_cons_zero, List.set_cons_succ]
            refine takeH HQ.out 16 (some 42) (.pointer (some ⟨b, o + k * 5, none⟩)) _ rfl rfl (by kernel_rfl) (by kernel_rfl) (by kernel_rfl) (by kernel_rfl) (fun w0 ⟨s1, s2, s3, s4, s5, s6, s7, s8⟩ => by go_simp) hS ?_
            simp only [Act.put, List.setIfInBounds_toArray, List.set_cons_zero, List.set_cons_succ]
            refine takeH HQ.out 17 (some 43) (.agg #[.int .i64 s.id, .string s.ten, .string s.usr, .int .i64 s.since, .int .i64 s.used]) _ rfl rfl (by kernel_rfl) (by kernel_rfl) (by kernel_rfl) (by kernel_rfl) (fun w0 ⟨s1, s2, s3, s4, s5, s6, s7, s8⟩ => by go_simp) hS ?_
            simp only [Act.put, List.setIfInBounds_toArray, List.set_cons_zero, List.set_cons_succ]
            refine takeH HQ.out 18 (some 44) (.int .i64 now) _ rfl rfl (by kernel_rfl) (by kernel_rfl) (by kernel_rfl) (by kernel_rfl) (fun w0 ⟨s1, s2, s3, s4, s5, s6, s7, s8⟩ => by go_simp) hS ?_
            simp only [Act.put, List.setIfInBounds_toArray, List.set_cons_zero, List.set_cons_succ]
            refine wpAnyH_ready (rs := [19]) (by kernel_rfl) (by simp) ?_
            refine AllReadyH.cons rfl (fun K hK => ?_) AllReadyH.nil
            go_simp
            refine (Hov.out _).mono ?_
            rintro e w1 ⟨rfl, hb1'⟩
            have hb1 := undrew1 hb1'
            have Hb1 := hid hb1
            have hS1 := scan_keep hb1 c2 d0 d1 d2 d3 d4 q0 q1
            clear hb1 hb1' hS
            dsimp only
            refine hK.out _ _ hS1 (fun hS => ?_)
            clear hK K
            refine takeH HQ.out 20 (some 46) (.bool true) _ rfl rfl (by kernel_rfl) (by kernel_rfl) (by kernel_rfl) (by kernel_rfl) (fun w0 ⟨s1, s2, s3, s4, s5, s6, s7, s8⟩ => by go_simp) hS ?_
            simp only [Act.put, List.setIfInBounds_toArray, List.set_cons_zero, List.set_cons_succ]
            refine takeH HQ.out 21 (some 47) (.bool true) _ rfl rfl (by kernel_rfl) (by kernel_rfl) (by kernel_rfl) (by kernel_rfl) (fun w0 ⟨s1, s2, s3, s4, s5, s6, s7, s8⟩ => by go_simp) hS ?_
            simp only [Act.put, List.setIfInBounds_toArray, List.set_cons_zero, List.set_cons_succ]
            refine wpAnyH_done (by kernel_rfl) ?_ _
            obtain ⟨k2, f0, f1, f2, f3, f4, p0, p1⟩ := hS
            have Hrow1 := hid (Hrow.out.kept (grown_of_below Hb1.out) (Classical.em _))
            have hz1 := Hb1.out.size
            clear c2 d0 d1 d2 d3 d4 q0 q1
            go_wp2_with (first
              | (at_builtin; refine app_sess w1 rfl _ _ rfl (w.heap.size + 1) u9 ((T.l.take k).filter (liveB t u now)) rfl Hrow1.out s rfl (by omega) (by omega) ?_; intro v' w3 hrow3 hg3)
              | go_in)
            go_roundw
            case rel =>
              refine ⟨k + 1, by omega, by go_num, ?_, (Below.on' Hb.out Hb1.out).trans ⟨hg3.os, hg3.tape, hg3.output, hg3.size, fun i hi => hg3.block i (by omega) (row_ne_low Hrow1.out (by omega))⟩, by have := hg3.size; omega, (grown_cell hg3 w.heap.size 0 (by omega) (row_ne_low Hrow1.out (by omega))).trans p0, (grown_cell hg3 w.heap.size 1 (by omega) (row_ne_low Hrow1.out (by omega))).trans p1⟩
              rw [Hsn.out, Hf.out, if_pos rfl]
              exact hrow3
            case measure => simp [intOf]; omega
          · have Hf : Hid (liveB t u now s = false) := by show _ = _; unfold liveB; rw [Ho.out, hf]; rfl
            rw [hf] at Hov
            clear hf
            go_wp2
            refine enterQ (S := fun w9 => w9.cell? ⟨r, 2, none⟩ = some (.slice (some ⟨b, o, none⟩) T.l.length cap) ∧ w9.cell? ⟨b, o + k * 5, none⟩ = some (.int .i64 s.id) ∧ w9.cell? ⟨b, o + k * 5 + 1, none⟩ = some (.string s.ten) ∧ w9.cell? ⟨b, o + k * 5 + 2, none⟩ = some (.string s.usr) ∧ w9.cell? ⟨b, o + k * 5 + 3, none⟩ = some (.int .i64 s.since) ∧ w9.cell? ⟨b, o + k * 5 + 4, none⟩ = some (.int .i64 s.used) ∧ w9.cell? ⟨w.heap.size, 0, none⟩ = some (.string t) ∧ w9.cell? ⟨w.heap.size, 1, none⟩ = some (.string u)) (by kernel_rfl) ⟨c2, d0, d1, d2, d3, d4, q0, q1⟩ (fun d v c a w h => by cases d <;> exact h) (fun hQ hS => ?_)
            have HQ := hid hQ
            clear hQ
            refine takeH HQ.out 0 (some 26) (.pointer (some ⟨r, 0, none⟩)) _ rfl rfl (by kernel_rfl) (by kernel_rfl) (by kernel_rfl) (by kernel_rfl) (fun w0 ⟨s1, s2, s3, s4, s5, s6, s7, s8⟩ => by go_simp) hS ?_
            simp only [Act.put, List.setIfInBounds_toArray, List.set_cons_zero, List.set_cons_succ]
            refine takeH HQ.out 1 (some 27) (.pointer (some ⟨r, 0, none⟩)) _ rfl rfl (by kernel_rfl) (by kernel_rfl) (by kernel_rfl) (by kernel_rfl) (fun w0 ⟨s1, s2, s3, s4, s5, s6, s7, s8⟩ => by go_simp) hS ?_
            simp only [Act.put, List.setIfInBounds_toArray, List.set_cons_zero, List.set_cons_succ]
            refine takeH HQ.out 2 (some 28) (.pointer (some ⟨r, 2, none⟩)) _ rfl rfl (by kernel_rfl) (by kernel_rfl) (by kernel_rfl) (by kernel_rfl) (fun w0 ⟨s1, s2, s3, s4, s5, s6, s7, s8⟩ => by go_simp) hS ?_
            simp only [Act.put, List.setIfInBounds_toArray, List.set_cons_zero, List.set_cons_succ]
            refine takeH HQ.out 3 (some 29) (.slice (some ⟨b, o, none⟩) T.l.length cap) _ rfl rfl (by kernel_rfl) (by kernel_rfl) (by kernel_rfl) (by kernel_rfl) (fun w0 ⟨s1, s2, s3, s4, s5, s6, s7, s8⟩ => by go_simp) hS ?_
            simp only [Act.put, List.setIfInBounds_toArray, List.set_cons_zero, List.set_cons_succ]
            refine takeH HQ.out 4 (some 30) (.int .i64 (k : Int)) _ rfl rfl (by kernel_rfl) (by kernel_rfl) (by kernel_rfl) (by kernel_rfl) (fun w0 ⟨s1, s2, s3, s4, s5, s6, s7, s8⟩ => by go_simp) hS ?_
            simp only [Act.put, List.setIfInBounds_toArray, List.set_cons_zero, List.set_cons_succ]
            refine takeH HQ.out 5 (some 31) (.pointer (some ⟨b, o + k * 5, none⟩)) _ rfl rfl (by kernel_rfl) (by kernel_rfl) (by kernel_rfl) (by kernel_rfl) (fun w0 ⟨s1, s2, s3, s4, s5, s6, s7, s8⟩ => by go_simp) hS ?_
            simp only [Act.put, List.setIfInBounds_toArray, List.set_cons_zero, List.set_cons_succ]
            refine takeH HQ.out 6 (some 32) (.pointer (some ⟨b, o + k * 5 + 1, none⟩)) _ rfl rfl (by kernel_rfl) (by kernel_rfl) (by kernel_rfl) (by kernel_rfl) (fun w0 ⟨s1, s2, s3, s4, s5, s6, s7, s8⟩ => by go_simp) hS ?_
            simp only [Act.put, List.setIfInBounds_toArray, List.set_cons_zero, List.set_cons_succ]
            refine takeH HQ.out 7 (some 33) (.agg #[.string s.ten, .string s.usr]) _ rfl rfl (by kernel_rfl) (by kernel_rfl) (by kernel_rfl) (by kernel_rfl) (fun w0 ⟨s1, s2, s3, s4, s5, s6, s7, s8⟩ => by go_simp) hS ?_
            simp only [Act.put, List.setIfInBounds_toArray, List.set_cons_zero, List.set_cons_succ]
            refine takeH HQ.out 8 (some 34) (.agg #[.string t, .string u]) _ rfl rfl (by kernel_rfl) (by kernel_rfl) (by kernel_rfl) (by kernel_rfl) (fun w0 ⟨s1, s2, s3, s4, s5, s6, s7, s8⟩ => by go_simp) hS ?_
            simp only [Act.put, List.setIfInBounds_toArray, List.set_cons_zero, List.set_cons_succ]
            refine takeH HQ.out 9 (some 35) (.bool true) _ rfl rfl (by kernel_rfl) (by kernel_rfl) (by kernel_rfl) (by kernel_rfl) (fun w0 ⟨s1, s2, s3, s4, s5, s6, s7, s8⟩ => by go_simp) hS ?_
            simp only [Act.put, List.setIfInBounds_toArray, List.set_cons_zero, List.set_cons_succ]
            refine takeH HQ.out 10 (some 36) (.bool true) _ rfl rfl (by kernel_rfl) (by kernel_rfl) (by kernel_rfl) (by kernel_rfl) (fun w0 ⟨s1, s2, s3, s4, s5, s6, s7, s8⟩ => by go_simp) hS ?_
            simp only [Act.put, List.setIfInBounds_toArray, List.set_cons_zero, List.set_cons_succ]
            refine takeH HQ.out 11 (some 37) (.pointer (some ⟨r, 0, none⟩)) _ rfl rfl (by kernel_rfl) (by kernel_rfl) (by kernel_rfl) (by kernel_rfl) (fun w0 ⟨s1, s2, s3, s4, s5, s6, s7, s8⟩ => by go_simp) hS ?_
            simp only [Act.put, List.setIfInBounds_toArray, List.set_cons_zero, List.set_cons_succ]
            refine takeH HQ.out 12 (some 38) (.pointer (some ⟨r, 0, none⟩)) _ rfl rfl (by kernel_rfl) (by kernel_rfl) (by kernel_rfl) (by kernel_rfl) (fun w0 ⟨s1, s2, s3, s4, s5, s6, s7, s8⟩ => by go_simp) hS ?_
            simp only [Act.put, List.setIfInBounds_toArray, List.set_cons_zero, List.set_cons_succ]
            refine takeH HQ.out 13 (some 39) (.pointer (some ⟨r, 2, none⟩)) _ rfl rfl (by kernel_rfl) (by kernel_rfl) (by kernel_rfl) (by kernel_rfl) (fun w0 ⟨s1, s2, s3, s4, s5, s6, s7, s8⟩ => by go_simp) hS ?_
            simp only [Act.put, List.setIfInBounds_toArray, List.set_cons_zero, List.set_cons_succ]
            refine takeH HQ.out 14 (some 40) (.slice (some ⟨b, o, none⟩) T.l.length cap) _ rfl rfl (by kernel_rfl) (by kernel_rfl) (by kernel_rfl) (by kernel_rfl) (fun w0 ⟨s1, s2, s3, s4, s5, s6, s7, s8⟩ => by go_simp) hS ?_
            simp only [Act.put, List.setIfInBounds_toArray, List.set_cons_zero, List.set_cons_succ]
            refine takeH HQ.out 15 (some 41) (.int .i64 (k : Int)) _ rfl rfl (by kernel_rfl) (by kernel_rfl) (by kernel_rfl) (by kernel_rfl) (fun w0 ⟨s1, s2, s3, s4, s5, s6, s7, s8⟩ => by go_simp) hS ?_
            simp only [Act.put, List.setIfInBounds_toArray, List.set_cons_zero, List.set_cons_succ]
            refine takeH HQ.out 16 (some 42) (.pointer (some ⟨b, o + k * 5, none⟩)) _ rfl rfl (by kernel_rfl) (by kernel_rfl) (by kernel_rfl) (by kernel_rfl) (fun w0 ⟨s1, s2, s3, s4, s5, s6, s7, s8⟩ => by go_simp) hS ?_
            simp only [Act.put, List.setIfInBounds_toArray, List.set_cons_zero, List.set_cons_succ]
            refine takeH HQ.out 17 (some 43) (.agg #[.int .i64 s.id, .string s.ten, .string s.usr, .int .i64 s.since, .int .i64 s.used]) _ rfl rfl (by kernel_rfl) (by kernel_rfl) (by kernel_rfl) (by kernel_rfl) (fun w0 ⟨s1, s2, s3, s4, s5, s6, s7, s8⟩ => by go_simp) hS ?_
            simp only [Act.put, List.setIfInBounds_toArray, List.set_cons_zero, List.set_cons_succ]
            refine takeH HQ.out 18 (some 44) (.int .i64 now) _ rfl rfl (by kernel_rfl) (by kernel_rfl) (by kernel_rfl) (by kernel_rfl) (fun w0 ⟨s1, s2, s3, s4, s5, s6, s7, s8⟩ => by go_simp) hS ?_
            simp only [Act.put, List.setIfInBounds_toArray, List.set_cons_zero, List.set_cons_succ]
            refine wpAnyH_ready (rs := [19]) (by kernel_rfl) (by simp) ?_
            refine AllReadyH.cons rfl (fun K hK => ?_) AllReadyH.nil
            go_simp
            refine (Hov.out _).mono ?_
            rintro e w1 ⟨rfl, hb1'⟩
            have hb1 := undrew1 hb1'
            have Hb1 := hid hb1
            have hS1 := scan_keep hb1 c2 d0 d1 d2 d3 d4 q0 q1
            clear hb1 hb1' hS
            dsimp only
            refine hK.out _ _ hS1 (fun hS => ?_)
            clear hK K
            refine takeH HQ.out 20 (some 46) (.bool false) _ rfl rfl (by kernel_rfl) (by kernel_rfl) (by kernel_rfl) (by kernel_rfl) (fun w0 ⟨s1, s2, s3, s4, s5, s6, s7, s8⟩ => by go_simp) hS ?_
            simp only [Act.put, List.setIfInBounds_toArray, List.set_cons_zero, List.set_cons_succ]
            refine takeH HQ.out 21 (some 47) (.bool false) _ rfl rfl (by kernel_rfl) (by kernel_rfl) (by kernel_rfl) (by kernel_rfl) (fun w0 ⟨s1, s2, s3, s4, s5, s6, s7, s8⟩ => by go_simp) hS ?_
            simp only [Act.put, List.setIfInBounds_toArray, List.set_cons_zero, List.set_cons_succ]
            refine wpAnyH_done (by kernel_rfl) ?_ _
            obtain ⟨k2, f0, f1, f2, f3, f4, p0, p1⟩ := hS
            have Hrow1 := hid (Hrow.out.kept (grown_of_below Hb1.out) (Classical.em _))
            have hz1 := Hb1.out.size
            clear c2 d0 d1 d2 d3 d4 q0 q1
            go_wp2
            go_roundw
            case rel =>
              refine ⟨k + 1, by omega, by go_num, ?_, Below.on' Hb.out Hb1.out, by omega, p0, p1⟩
              rw [Hsn.out, Hf.out]
              simp only [Bool.false_eq_true, if_false, List.append_nil]
              exact Hrow1.out
            case measure => simp [intOf]; omega
        · have Hf : Hid (liveB t u now s = false) := by show _ = _; unfold liveB; rw [own_no h1]; rfl
          have hrn : Hid (wr.drew.ownsRow (w.heap.size + 1) 42 5 u9 ((T.l.take (k + 1)).filter (liveB t u now)).length (sCells ((T.l.take (k + 1)).filter (liveB t u now)))) := by
            show World.ownsRow _ _ _ _ _ _ _
            rw [Hsn.out, Hf.out]
            simp only [Bool.false_eq_true, if_false, List.append_nil]
            exact Hrow.out
          by_cases c1 : s.ten.toList = t.toList
          · have c2' : ¬ s.usr.toList = u.toList := fun c2 => h1 ⟨c1, c2⟩
            clear h1
            go_wp2
            refine enterQ (S := fun w9 => w9.cell? ⟨r, 2, none⟩ = some (.slice (some ⟨b, o, none⟩) T.l.length cap) ∧ w9.cell? ⟨b, o + k * 5, none⟩ = some (.int .i64 s.id) ∧ w9.cell? ⟨b, o + k * 5 + 1, none⟩ = some (.string s.ten) ∧ w9.cell? ⟨b, o + k * 5 + 2, none⟩ = some (.string s.usr) ∧ w9.cell? ⟨b, o + k * 5 + 3, none⟩ = some (.int .i64 s.since) ∧ w9.cell? ⟨b, o + k * 5 + 4, none⟩ = some (.int .i64 s.used) ∧ w9.cell? ⟨w.heap.size, 0, none⟩ = some (.string t) ∧ w9.cell? ⟨w.heap.size, 1, none⟩ = some (.string u)) (by kernel_rfl) ⟨c2, d0, d1, d2, d3, d4, q0, q1⟩ (fun d v c a w h => by cases d <;> exact h) (fun hQ hS => ?_)
            have HQ := hid hQ
            clear hQ
            refine takeH HQ.out 0 (some 26) (.pointer (some ⟨r, 0, none⟩)) _ rfl rfl (by kernel_rfl) (by kernel_rfl) (by kernel_rfl) (by kernel_rfl) (fun w0 ⟨s1, s2, s3, s4, s5, s6, s7, s8⟩ => by go_simp) hS ?_
            simp only [Act.put, List.setIfInBounds_toArray, List.set_cons_zero, List.set_cons_succ]
            refine takeH HQ.out 1 (some 27) (.pointer (some ⟨r, 0, none⟩)) _ rfl rfl (by kernel_rfl) (by kernel_rfl) (by kernel_rfl) (by kernel_rfl) (fun w0 ⟨s1, s2, s3, s4, s5, s6, s7, s8⟩ => by go_simp) hS ?_
            simp only [Act.put, List.setIfInBounds_toArray, List.set_cons_zero, List.set_cons_succ]
            refine takeH HQ.out 2 (some 28) (.pointer (some ⟨r, 2, none⟩)) _ rfl rfl (by kernel_rfl) (by kernel_rfl) (by kernel_rfl) (by kernel_rfl) (fun w0 ⟨s1, s2, s3, s4, s5, s6, s7, s8⟩ => by go_simp) hS ?_
            simp only [Act.put, List.setIfInBounds_toArray, List.set_cons_zero, List.set_cons_succ]
            refine takeH HQ.out 3 (some 29) (.slice (some ⟨b, o, none⟩) T.l.length cap) _ rfl rfl (by kernel_rfl) (by kernel_rfl) (by kernel_rfl) (by kernel_rfl) (fun w0 ⟨s1, s2, s3, s4, s5, s6, s7, s8⟩ => by go_simp) hS ?_
            simp only [Act.put, List.setIfInBounds_toArray, List.set_cons_zero, List.set_cons_succ]
            refine takeH HQ.out 4 (some 30) (.int .i64 (k : Int)) _ rfl rfl (by kernel_rfl) (by kernel_rfl) (by kernel_rfl) (by kernel_rfl) (fun w0 ⟨s1, s2, s3, s4, s5, s6, s7, s8⟩ => by go_simp) hS ?_
            simp only [Act.put, List.setIfInBounds_toArray, List.set_cons_zero, List.set_cons_succ]
            refine takeH HQ.out 5 (some 31) (.pointer (some ⟨b, o + k * 5, none⟩)) _ rfl rfl (by kernel_rfl) (by kernel_rfl) (by kernel_rfl) (by kernel_rfl) (fun w0 ⟨s1, s2, s3, s4, s5, s6, s7, s8⟩ => by go_simp) hS ?_
            simp only [Act.put, List.setIfInBounds_toArray, List.set_cons_zero, List.set_cons_succ]
            refine takeH HQ.out 6 (some 32) (.pointer (some ⟨b, o + k * 5 + 1, none⟩)) _ rfl rfl (by kernel_rfl) (by kernel_rfl) (by kernel_rfl) (by kernel_rfl) (fun w0 ⟨s1, s2, s3, s4, s5, s6, s7, s8⟩ => by go_simp) hS ?_
            simp only [Act.put, List.setIfInBounds_toArray, List.set_cons_zero, List.set_cons_succ]
            refine takeH HQ.out 7 (some 33) (.agg #[.string s.ten, .string s.usr]) _ rfl rfl (by kernel_rfl) (by kernel_rfl) (by kernel_rfl) (by kernel_rfl) (fun w0 ⟨s1, s2, s3, s4, s5, s6, s7, s8⟩ => by go_simp) hS ?_
            simp only [Act.put, List.setIfInBounds_toArray, List.set_cons_zero, List.set_cons_succ]
            refine takeH HQ.out 8 (some 34) (.agg #[.string t, .string u]) _ rfl rfl (by kernel_rfl) (by kernel_rfl) (by kernel_rfl) (by kernel_rfl) (fun w0 ⟨s1, s2, s3, s4, s5, s6, s7, s8⟩ => by go_simp) hS ?_
            simp only [Act.put, List.setIfInBounds_toArray, List.set_cons_zero, List.set_cons_succ]
            refine takeH HQ.out 9 (some 35) (.bool false) _ rfl rfl (by kernel_rfl) (by kernel_rfl) (by kernel_rfl) (by kernel_rfl) (fun w0 ⟨s1, s2, s3, s4, s5, s6, s7, s8⟩ => by go_simp) hS ?_
            simp only [Act.put, List.setIfInBounds_toArray, List.set_cons_zero, List.set_cons_succ]
            refine takeH HQ.out 10 (some 36) (.bool false) _ rfl rfl (by kernel_rfl) (by kernel_rfl) (by kernel_rfl) (by kernel_rfl) (fun w0 ⟨s1, s2, s3, s4, s5, s6, s7, s8⟩ => by go_simp) hS ?_
            simp only [Act.put, List.setIfInBounds_toArray, List.set_cons_zero, List.set_cons_succ]
            refine skipH HQ.out 11 (some 37) _ rfl rfl (by kernel_rfl) (by kernel_rfl) (by kernel_rfl) (by kernel_rfl) hS ?_
            simp only [Act.put, List.setIfInBounds_toArray, List.set_cons_zero, List.set_cons_succ]
            refine skipH HQ.out 12 (some 38) _ rfl rfl (by kernel_rfl) (by kernel_rfl) (by kernel_rfl) (by kernel_rfl) hS ?_
            simp only [Act.put, List.setIfInBounds_toArray, List.set_cons_zero, List.set_cons_succ]
            refine skipH HQ.out 13 (some 39) _ rfl rfl (by kernel_rfl) (by kernel_rfl) (by kernel_rfl) (by kernel_rfl) hS ?_
            simp only [Act.put, List.setIfInBounds_toArray, List.set_cons_zero, List.set_cons_succ]
            refine skipH HQ.out 14 (some 40) _ rfl rfl (by kernel_rfl) (by kernel_rfl) (by kernel_rfl) (by kernel_rfl) hS ?_
            simp only [Act.put, List.setIfInBounds_toArray, List.set_cons_zero, List.set_cons_succ]
            refine skipH HQ.out 15 (some 41) _ rfl rfl (by kernel_rfl) (by kernel_rfl) (by kernel_rfl) (by kernel_rfl) hS ?_
            simp only [Act.put, List.setIfInBounds_toArray, List.set_cons_zero, List.set_cons_succ]
            refine skipH HQ.out 16 (some 42) _ rfl rfl (by kernel_rfl) (by kernel_rfl) (by kernel_rfl) (by kernel_rfl) hS ?_
            simp only [Act.put, List.setIfInBounds_toArray, List.set_cons_zero, List.set_cons_succ]
            refine skipH HQ.out 17 (some 43) _ rfl rfl (by kernel_rfl) (by kernel_rfl) (by kernel_rfl) (by kernel_rfl) hS ?_
            simp only [Act.put, List.setIfInBounds_toArray, List.set_cons_zero, List.set_cons_succ]
            refine skipH HQ.out 18 (some 44) _ rfl rfl (by kernel_rfl) (by kernel_rfl) (by kernel_rfl) (by kernel_rfl) hS ?_
            simp only [Act.put, List.setIfInBounds_toArray, List.set_cons_zero, List.set_cons_succ]
            refine skipH HQ.out 19 (some 45) _ rfl rfl (by kernel_rfl) (by kernel_rfl) (by kernel_rfl) (by kernel_rfl) hS ?_
            simp only [Act.put, List.setIfInBounds_toArray, List.set_cons_zero, List.set_cons_succ]
            refine skipH HQ.out 20 (some 46) _ rfl rfl (by kernel_rfl) (by kernel_rfl) (by kernel_rfl) (by kernel_rfl) hS ?_
            simp only [Act.put, List.setIfInBounds_toArray, List.set_cons_zero, List.set_cons_succ]
            refine takeH HQ.out 21 (some 47) (.bool false) _ rfl rfl (by kernel_rfl) (by kernel_rfl) (by kernel_rfl) (by kernel_rfl) (fun w0 ⟨s1, s2, s3, s4, s5, s6, s7, s8⟩ => by go_simp) hS ?_
            simp only [Act.put, List.setIfInBounds_toArray, List.set_cons_zero, List.set_cons_succ]
            refine wpAnyH_done (by kernel_rfl) ?_ _
            clear hS
            go_wp2
            go_roundw
            case rel => exact ⟨k + 1, by omega, by go_num, hrn.out, Hb.out.trans (below_drewN _ _ 1), hzr, q0, q1⟩
            case measure => simp [intOf]; omega
          · clear h1
            go_wp2
            refine enterQ (S := fun w9 => w9.cell? ⟨r, 2, none⟩ = some (.slice (some ⟨b, o, none⟩) T.l.length cap) ∧ w9.cell? ⟨b, o + k * 5, none⟩ = some (.int .i64 s.id) ∧ w9.cell? ⟨b, o + k * 5 + 1, none⟩ = some (.string s.ten) ∧ w9.cell? ⟨b, o + k * 5 + 2, none⟩ = some (.string s.usr) ∧ w9.cell? ⟨b, o + k * 5 + 3, none⟩ = some (.int .i64 s.since) ∧ w9.cell? ⟨b, o + k * 5 + 4, none⟩ = some (.int .i64 s.used) ∧ w9.cell? ⟨w.heap.size, 0, none⟩ = some (.string t) ∧ w9.cell? ⟨w.heap.size, 1, none⟩ = some (.string u)) (by kernel_rfl) ⟨c2, d0, d1, d2, d3, d4, q0, q1⟩ (fun d v c a w h => by cases d <;> exact h) (fun hQ hS => ?_)
            have HQ := hid hQ
            clear hQ
            refine takeH HQ.out 0 (some 26) (.pointer (some ⟨r, 0, none⟩)) _ rfl rfl (by kernel_rfl) (by kernel_rfl) (by kernel_rfl) (by kernel_rfl) (fun w0 ⟨s1, s2, s3, s4, s5, s6, s7, s8⟩ => by go_simp) hS ?_
            simp only [Act.put, List.setIfInBounds_toArray, List.set_cons_zero, List.set_cons_succ]
            refine takeH HQ.out 1 (some 27) (.pointer (some ⟨r, 0, none⟩)) _ rfl rfl (by kernel_rfl) (by kernel_rfl) (by kernel_rfl) (by kernel_rfl) (fun w0 ⟨s1, s2, s3, s4, s5, s6, s7, s8⟩ => by go_simp) hS ?_
            simp only [Act.put, List.setIfInBounds_toArray, List.set_cons_zero, List.set_cons_succ]
            refine takeH HQ.out 2 (some 28) (.pointer (some ⟨r, 2, none⟩)) _ rfl rfl (by kernel_rfl) (by kernel_rfl) (by kernel_rfl) (by kernel_rfl) (fun w0 ⟨s1, s2, s3, s4, s5, s6, s7, s8⟩ => by go_simp) hS ?_
            simp only [Act.put, List.setIfInBounds_toArray, List.set_cons_zero, List.set_cons_succ]
            refine takeH HQ.out 3 (some 29) (.slice (some ⟨b, o, none⟩) T.l.length cap) _ rfl rfl (by kernel_rfl) (by kernel_rfl) (by kernel_rfl) (by kernel_rfl) (fun w0 ⟨s1, s2, s3, s4, s5, s6, s7, s8⟩ => by go_simp) hS ?_
            simp only [Act.put, List.setIfInBounds_toArray, List.set_cons_zero, List.set_cons_succ]
            refine takeH HQ.out 4 (some 30) (.int .i64 (k : Int)) _ rfl rfl (by kernel_rfl) (by kernel_rfl) (by kernel_rfl) (by kernel_rfl) (fun w0 ⟨s1, s2, s3, s4, s5, s6, s7, s8⟩ => by go_simp) hS ?_
            simp only [Act.put, List.setIfInBounds_toArray, List.set_cons_zero, List.set_cons_succ]
            refine takeH HQ.out 5 (some 31) (.pointer (some ⟨b, o + k * 5, none⟩)) _ rfl rfl (by kernel_rfl) (by kernel_rfl) (by kernel_rfl) (by kernel_rfl) (fun w0 ⟨s1, s2, s3, s4, s5, s6, s7, s8⟩ => by go_simp) hS ?_
            simp only [Act.put, List.setIfInBounds_toArray, List.set_cons_zero, List.set_cons_succ]
            refine takeH HQ.out 6 (some 32) (.pointer (some ⟨b, o + k * 5 + 1, none⟩)) _ rfl rfl (by kernel_rfl) (by kernel_rfl) (by kernel_rfl) (by kernel_rfl) (fun w0 ⟨s1, s2, s3, s4, s5, s6, s7, s8⟩ => by go_simp) hS ?_
            simp only [Act.put, List.setIfInBounds_toArray, List.set_cons_zero, List.set_cons_succ]
            refine takeH HQ.out 7 (some 33) (.agg #[.string s.ten, .string s.usr]) _ rfl rfl (by kernel_rfl) (by kernel_rfl) (by kernel_rfl) (by kernel_rfl) (fun w0 ⟨s1, s2, s3, s4, s5, s6, s7, s8⟩ => by go_simp) hS ?_
            simp only [Act.put, List.setIfInBounds_toArray, List.set_cons_zero, List.set_cons_succ]
            refine takeH HQ.out 8 (some 34) (.agg #[.string t, .string u]) _ rfl rfl (by kernel_rfl) (by kernel_rfl) (by kernel_rfl) (by kernel_rfl) (fun w0 ⟨s1, s2, s3, s4, s5, s6, s7, s8⟩ => by go_simp) hS ?_
            simp only [Act.put, List.setIfInBounds_toArray, List.set_cons_zero, List.set_cons_succ]
            refine takeH HQ.out 9 (some 35) (.bool false) _ rfl rfl (by kernel_rfl) (by kernel_rfl) (by kernel_rfl) (by kernel_rfl) (fun w0 ⟨s1, s2, s3, s4, s5, s6, s7, s8⟩ => by go_simp) hS ?_
            simp only [Act.put, List.setIfInBounds_toArray, List.set_cons_zero, List.set_cons_succ]
            refine takeH HQ.out 10 (some 36) (.bool false) _ rfl rfl (by kernel_rfl) (by kernel_rfl) (by kernel_rfl) (by kernel_rfl) (fun w0 ⟨s1, s2, s3, s4, s5, s6, s7, s8⟩ => by go_simp) hS ?_
            simp only [Act.put, List.setIfInBounds_toArray, List.set_cons_zero, List.set_cons_succ]
            refine skipH HQ.out 11 (some 37) _ rfl rfl (by kernel_rfl) (by kernel_rfl) (by kernel_rfl) (by kernel_rfl) hS ?_
            simp only [Act.put, List.setIfInBounds_toArray, List.set_cons_zero, List.set_cons_succ]
            refine skipH HQ.out 12 (some 38) _ rfl rfl (by kernel_rfl) (by kernel_rfl) (by kernel_rfl) (by kernel_rfl) hS ?_
            simp only [Act.put, List.setIfInBounds_toArray, List.set_cons_zero, List.set_cons_succ]
            refine skipH HQ.out 13 (some 39) _ rfl rfl (by kernel_rfl) (by kernel_rfl) (by kernel_rfl) (by kernel_rfl) hS ?_
            simp only [Act.put, List.setIfInBounds_toArray, List.set_cons_zero, List.set_cons_succ]
            refine skipH HQ.out 14 (some 40) _ rfl rfl (by kernel_rfl) (by kernel_rfl) (by kernel_rfl) (by kernel_rfl) hS ?_
            simp only [Act.put, List.setIfInBounds_toArray, List.set_cons_zero, List.set_cons_succ]
            refine skipH HQ.out 15 (some 41) _ rfl rfl (by kernel_rfl) (by kernel_rfl) (by kernel_rfl) (by kernel_rfl) hS ?_
            simp only [Act.put, List.setIfInBounds_toArray, List.set_cons_zero, List.set_cons_succ]
            refine skipH HQ.out 16 (some 42) _ rfl rfl (by kernel_rfl) (by kernel_rfl) (by kernel_rfl) (by kernel_rfl) hS ?_
            simp only [Act.put, List.setIfInBounds_toArray, List.set_cons_zero, List.set_cons_succ]
            refine skipH HQ.out 17 (some 43) _ rfl rfl (by kernel_rfl) (by kernel_rfl) (by kernel_rfl) (by kernel_rfl) hS ?_
            simp only [Act.put, List.setIfInBounds_toArray, List.set_cons_zero, List.set_cons_succ]
            refine skipH HQ.out 18 (some 44) _ rfl rfl (by kernel_rfl) (by kernel_rfl) (by kernel_rfl) (by kernel_rfl) hS ?_
            simp only [Act.put, List.setIfInBounds_toArray, List.set_cons_zero, List.set_cons_succ]
            refine skipH HQ.out 19 (some 45) _ rfl rfl (by kernel_rfl) (by kernel_rfl) (by kernel_rfl) (by kernel_rfl) hS ?_
            simp only [Act.put, List.setIfInBounds_toArray, List.set_cons_zero, List.set_cons_succ]
            refine skipH HQ.out 20 (some 46) _ rfl rfl (by kernel_rfl) (by kernel_rfl) (by kernel_rfl) (by kernel_rfl) hS ?_
            simp only [Act.put, List.setIfInBounds_toArray, List.set_cons_zero, List.set_cons_succ]
            refine takeH HQ.out 21 (some 47) (.bool false) _ rfl rfl (by kernel_rfl) (by kernel_rfl) (by kernel_rfl) (by kernel_rfl) (fun w0 ⟨s1, s2, s3, s4, s5, s6, s7, s8⟩ => by go_simp) hS ?_
            simp only [Act.put, List.setIfInBounds_toArray, List.set_cons_zero, List.set_cons_succ]
            refine wpAnyH_done (by kernel_rfl) ?_ _
            clear hS
            go_wp2
            go_roundw
            case rel => exact ⟨k + 1, by omega, by go_num, hrn.out, Hb.out.trans (below_drewN _ _ 1), hzr, q0, q1⟩
            case measure => simp [intOf]; omega
      · have e : k = T.l.length := by omega
        subst e
        have hrow2 := Hrow.out
        rw [List.take_length] at hrow2
        have Hrow2 := hid hrow2
        clear hrow2 Hrow hR
        go_wp2
        go_ret2
        exact ⟨_, rfl, Hrow2.out.mono (by omega), Hb.out⟩
  · have ea : tLive T t u now = [] := by unfold tLive; rw [if_pos (by simpa using e0)]
    rw [ea]
    have b0 : (timeErr now T.noted == 0) = false := by simpa using e0
    generalize timeErr now T.noted = x at *
    clear h h2 ok ea
    go_enter Tryd.func30, Tryd.ntmps30
    go_wp2_with (go_at_call 43; refine Hte.mono ?_; rintro e w2 ⟨rfl, rfl⟩)
    go_ret2
    exact ⟨_, rfl, World.ownsRow_nil _ _ _ _, hb2⟩
end Go.Proofs.YtcchlcbonfdhpaaDoor
