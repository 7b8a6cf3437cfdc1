/- The reference's drop, in, ends, End, EndSessions, EndClient, Sweep: that they end, and what they leave. -/
import Derived.Test.YtmnhhomkglffcaaGreatDoorKR3
namespace Go.Proofs.YtmnhhomkglffcaaGreatDoor
open Go.RowKit Go.Maps Go.Sort Go.Shelf
set_option linter.unusedVariables false
set_option maxRecDepth 20000

/-- a store that has no more than there was -/
def Less (w' : World) (B r : Nat) (n m : Nat) : Prop := ∃ a c a' c' U, RAt w' B r a c a' c' U ∧ U.fs.length ≤ n ∧ U.ts.length ≤ m
def LessNew (w w' : World) (B r : Nat) (n m : Nat) : Prop := ∃ a c a' c' U, RAt w' B r a c a' c' U ∧ U.fs.length ≤ n ∧ U.ts.length ≤ m ∧ ∀ k, rBlk r a a' k → k = r ∨ w.heap.size ≤ k
theorem LessNew.less {w w' : World} {B r n m : Nat} (h : LessNew w w' B r n m) : Less w' B r n m := by
  obtain ⟨a, c, a', c', U, h1, h2, h3, _⟩ := h
  exact ⟨a, c, a', c', U, h1, h2, h3⟩
def DropPost (w : World) (B r n m : Nat) (e : Ending) (w' : World) : Prop := e = .returned (.tuple #[]) ∧ LessNew w w' B r n m ∧ Out (fun k => k = r) w w'
set_option maxHeartbeats 3200000 in
theorem rDrop_any {w : World} {B r : Nat} {a : Option Addr} {c : Nat} {a' : Option Addr} {c' : Nat} {U : Sto} (h : RAt w B r a c a' c' U) (hB : B ≤ w.heap.size) (hl : U.fs.length ≤ 1000000000) (hl' : U.ts.length ≤ 1000000000) (x : Int) :
    Calls Tryz.prog 60 #[.pointer (some ⟨r, 0, none⟩), .int .i64 x] w (DropPost w B r U.fs.length U.ts.length) := by
  have hr := h.lt
  have H := hid h
  clear h
  generalize hN : U.fs.length = N at *
  have HN := hid hN
  clear hN
  generalize hM : U.ts.length = M at *
  have HM := hid hM
  clear hM
  go_enter Tryz.func60, Tryz.ntmps60
  go_wp2
  go_loopw [4, 5] (fun v i wr => ∃ k : Nat, k ≤ N ∧ i = .int .i64 k ∧ FRow w w.heap.size v k wr) (fun _ i _ => N - (intOf i).toNat)
  case atStart => exact ⟨0, Nat.zero_le _, rfl, [], Nat.le_refl _, World.ownsRow_nil _ _ _ _, Below.refl _ _⟩
  case round =>
    obtain ⟨k, hk, rfl, l, hlk, hrow, hb⟩ := hrel
    have Hb := hid hb
    have Hrow := hid hrow
    have hR := H.out.below hb
    have c3 := hR.c3
    rw [HN.out] at c3
    have hz : w.heap.size ≤ wr.heap.size := hb.size
    clear hb hrow
    by_cases hlt : k < N
    · have Hg : Hid (U.fs[k]? = some (U.fs[k]'(by rw [HN.out]; exact hlt))) := List.getElem?_eq_getElem _
      generalize U.fs[k]'(by rw [HN.out]; exact hlt) = s at *
      obtain ⟨_, b, o, ea, d0, d1, d2, d3, d4⟩ := hR.sinf.at Hg.out
      cases ea
      clear hR
      by_cases he : s.id = x
      · have b1 : (s.id == x) = true := by simpa using he
        clear he
        go_wp2
        go_roundw
        case rel => exact ⟨k + 1, by omega, by go_num, l, by omega, Hrow.out, Hb.out⟩
        case measure => simp [intOf]; omega
      · have b1 : (s.id == x) = false := by simpa using he
        go_wp2_with (first
          | (at_builtin; refine Fam.app_sess _ rfl _ _ rfl w.heap.size u4 l rfl Hrow.out s rfl (by omega) hz ?_; intro v' w3 hrow3 hg3)
          | go_in)
        go_roundw
        case rel => exact ⟨k + 1, by omega, by go_num, l ++ [s], by simp; omega, hrow3, Hb.out.trans (more_below Hrow.out hz hg3)⟩
        case measure => simp [intOf]; omega
    · have e : k = N := by omega
      clear hR
      subst e
      obtain ⟨V, hV⟩ : ∃ V, V = wr := ⟨_, rfl⟩
      rw [← hV] at Hb Hrow hz c3 ⊢
      clear hV
      obtain ⟨a9, c9, e9, _⟩ := Fam.sess_of_own Hrow.out
      subst e9
      go_wp2
      go_loopw [6, 7] (fun v i wr => ∃ j : Nat, j ≤ M ∧ i = .int .i64 j ∧ KRow V V.heap.size v j wr) (fun _ i _ => M - (intOf i).toNat)
      case atStart => exact ⟨0, Nat.zero_le _, rfl, [], Nat.le_refl _, World.ownsRow_nil _ _ _ _, Below.refl _ _⟩
      case round =>
        obtain ⟨j, hj, rfl, m, hmj, hrow2, hb2⟩ := hrel
        have Hb2 := hid hb2
        have Hrow2 := hid hrow2
        have hbb : Below w.heap.size w wr := Hb.out.trans (hb2.mono hz)
        have hR := H.out.below hbb
        have c4 := hR.c4
        rw [HM.out] at c4
        have hz2 : V.heap.size ≤ wr.heap.size := hb2.size
        have z3 := hR.z 3
        have z4 := hR.z 4
        have k3 := hR.c3
        have HR := hid hR
        clear hb2 hrow2
        by_cases hlt2 : j < M
        · have Hg : Hid (U.ts[j]? = some (U.ts[j]'(by rw [HM.out]; exact hlt2))) := List.getElem?_eq_getElem _
          generalize U.ts[j]'(by rw [HM.out]; exact hlt2) = t at *
          obtain ⟨_, b, o, ea, d0, d1, d2, d3⟩ := hR.sint.at Hg.out
          cases ea
          clear hR hbb
          by_cases he : t.fam = x
          · have b1 : (t.fam == x) = true := by simpa using he
            clear he
            go_wp2
            go_roundw
            case rel => exact ⟨j + 1, by omega, by go_num, m, by omega, Hrow2.out, Hb2.out⟩
            case measure => simp [intOf]; omega
          · have b1 : (t.fam == x) = false := by simpa using he
            go_wp2_with (first
              | (at_builtin; refine Tok.app_sess _ rfl _ _ rfl V.heap.size u6 m rfl Hrow2.out t rfl (by omega) hz2 ?_; intro v' w3 hrow3 hg3)
              | go_in)
            go_roundw
            case rel => exact ⟨j + 1, by omega, by go_num, m ++ [t], by simp; omega, hrow3, Hb2.out.trans (more_below Hrow2.out hz2 hg3)⟩
            case measure => simp [intOf]; omega
        · have e : j = M := by omega
          clear hR hbb
          subst e
          obtain ⟨a8, c8, e8, _⟩ := Tok.sess_of_own Hrow2.out
          subst e8
          go_wp2
          go_end0
          have hrf : wr.ownsRow w.heap.size 35 5 (.slice a9 l.length c9) l.length (Fam.sCells l) := row_kept Hrow.out (fun ad e => Hb2.out.block _ ((Hrow.out.lt ad.block (by rw [e]; rfl)).2))
          have r1 := HR.out.set3 (hrf.mono hB) (own_ne' hrf hr)
          have hrt := row_set Hrow2.out (r := r) (own_ne' Hrow2.out (by have := hz; omega)) 3 (.slice a9 l.length c9)
          have r2 := r1.set4 (hrt.mono (by have := hz; omega)) (own_ne' hrt (by have := hz; omega))
          have hnew : ∀ k, rBlk r a9 a8 k → k = r ∨ w.heap.size ≤ k := by
            rintro k (rfl | ⟨ad, e, rfl⟩ | ⟨ad, e, rfl⟩)
            · exact .inl rfl
            · exact .inr (hrf.lt ad.block (by rw [e]; rfl)).1
            · have := (Hrow2.out.lt ad.block (by rw [e]; rfl)).1
              exact .inr (by omega)
          exact ⟨rfl, ⟨_, _, _, _, _, r2, hlk, hmj, hnew⟩, (((Out.of_below (P := fun k => k = r) Hb.out).trans (Out.of_below (P := fun k => k = r) Hb2.out) (fun _ _ e => e)).setCell ⟨r, 3, none⟩ _ rfl).setCell ⟨r, 4, none⟩ _ rfl⟩

/-- is a number among others? -/
def hasB (zs : List Int) (x : Int) : Bool := zs.contains x
theorem hasB_iff {zs : List Int} {x : Int} : hasB zs x = true ↔ x ∈ zs := List.contains_iff_mem
set_option maxHeartbeats 800000 in
theorem rIn_any {w : World} {a : Option Addr} {zs : List Int} (ha : Ints w a zs) (c : Nat) (hl : zs.length ≤ maxLen) (x : Int) :
    Calls Tryz.prog 85 #[.slice a zs.length c, .int .i64 x] w fun e w' => e = .returned (.bool (hasB zs x)) ∧ w' = w := by
  have Ha := hid ha
  clear ha
  generalize hN : zs.length = N at *
  have HN := hid hN
  clear hN
  go_enter Tryz.func85, Tryz.ntmps85
  go_wp2
  go_loop [5] (fun i => ∃ k : Nat, k ≤ N ∧ i = .int .i64 k ∧ ∀ z ∈ zs.take k, z ≠ x) (fun i => N - (intOf i).toNat)
  case atStart => exact ⟨0, Nat.zero_le _, rfl, by simp⟩
  case round =>
    obtain ⟨k, hk, rfl, hno⟩ := hrel
    have Hno := hid hno
    clear hno
    have hN2 : N ≤ 9223372036854775807 := by simpa [maxLen] using hl
    by_cases hlt : k < N
    · obtain ⟨b, o, ea, h0⟩ := Ha.out k (by rw [HN.out]; exact hlt)
      cases ea
      have Hg : Hid (zs[k]? = some (zs[k]'(by rw [HN.out]; exact hlt))) := List.getElem?_eq_getElem _
      generalize zs[k]'(by rw [HN.out]; exact hlt) = z at *
      by_cases he : z = x
      · have b1 : (z == x) = true := by simpa using he
        have Hc : Hid (hasB zs x = true) := by show _ = _; rw [hasB_iff, ← he]; exact List.mem_of_getElem? Hg.out
        clear he
        go_wp2
        go_ret
        exact ⟨by rw [Hc.out]; rfl, rfl⟩
      · have b1 : (z == x) = false := by simpa using he
        have He := hid he
        clear he
        go_wp2
        go_round
        case rel => exact ⟨k + 1, by omega, by go_num, fun y hy => by
          rw [take_snoc_get Hg.out] at hy
          rcases List.mem_append.1 hy with hy | hy
          · exact Hno.out y hy
          · rw [List.mem_singleton] at hy; rw [hy]; exact He.out⟩
        case measure => simp [intOf]; omega
    · have e : k = N := by omega
      have Hc : Hid (hasB zs x = false) := by
        show _ = _
        rw [Bool.eq_false_iff]
        intro hc
        have := Hno.out x (by rw [List.take_of_length_le (by rw [HN.out]; omega)]; exact hasB_iff.1 hc)
        exact this rfl
      subst e
      go_wp2
      go_ret
      exact ⟨by rw [Hc.out]; rfl, rfl⟩

/-- some row of numbers, and a store that has no more than there was -/
def EndsPost (w : World) (B r n m : Nat) (e : Ending) (w' : World) : Prop := (∃ (a : Option Addr) (cap : Nat) (zs : List Int), e = .returned (.slice a zs.length cap) ∧ w'.ownsRow w.heap.size 3 1 (.slice a zs.length cap) zs.length (zCells zs) ∧ zs.length ≤ n) ∧ Less w' B r n m ∧ Out (fun k => k = r) w w'
def EndsRel (w : World) (B r n m : Nat) (v : Value) (k : Nat) (wr : World) : Prop :=
  (∃ zs : List Int, zs.length ≤ k ∧ wr.ownsRow w.heap.size 3 1 v zs.length (zCells zs)) ∧ Less wr B r n m ∧ Out (fun k => k = r) w wr
/-- rows of unlike things lie in unlike blocks -/
theorem row_apart {w : World} {B B' : Nat} {e e' : TypeId} {size size' n' m m' cap : Nat} {xs xs' : List Value} {v : Value} {ad : Option Addr} (h : w.ownsRow B e size v m xs) (h' : w.ownsRow B' e' size' (.slice ad n' cap) m' xs') (hne : e ≠ e') : ∀ x, ad = some x → some x.block ≠ v.ownBlock := by
  intro x hx hb
  rcases h.2 with ⟨rfl, _⟩ | ⟨g, c1, cur, rfl, _, h1, _⟩
  · cases hb
  · rcases h'.2 with ⟨e1, _⟩ | ⟨g', c2, cur', e1, _, h2, _⟩
    · injection e1 with e2; rw [hx] at e2; cases e2
    · injection e1 with e2
      rw [hx] at e2
      cases e2
      have : g' = g := by injection hb
      subst this
      rw [h1] at h2
      cases h2
      exact hne rfl
theorem RAt.grown {w w' : World} {B r : Nat} {a : Option Addr} {c : Nat} {a' : Option Addr} {c' : Nat} {U : Sto} (h : RAt w B r a c a' c' U) {B' size m : Nat} {xs : List Value} {v : Value} (hv : w.ownsRow B' 3 size v m xs) (hg : w.grownBy w' v.ownBlock) (hr : r < B') : RAt w' B r a c a' c' U :=
  h.keep (by
    rintro k (rfl | ⟨x, hx, rfl⟩ | ⟨x, hx, rfl⟩)
    · exact hg.block k h.lt (Ne.symm (own_ne' hv hr))
    · exact hg.block _ (h.lts _ (.inr (.inl ⟨x, hx, rfl⟩))).2 (row_apart hv h.rowf (by decide) x hx)
    · exact hg.block _ (h.lts _ (.inr (.inr ⟨x, hx, rfl⟩))).2 (row_apart hv h.rowt (by decide) x hx))
theorem SIn_out {w w' : World} {r : Nat} {a : Option Addr} {l : List Fam.Sess} (h : Fam.SIn w a l) (ho : ∀ ad, a = some ad → w'.heap[ad.block]? = w.heap[ad.block]?) : Fam.SIn w' a l := fun i hi => by
  obtain ⟨b, o, rfl, h0, h1, h2, h3, h4⟩ := h i hi
  have hb : w'.heap[b]? = w.heap[b]? := ho _ rfl
  exact ⟨b, o, rfl, (World.cell?_of_block (a := ⟨b, _, none⟩) hb).trans h0, (World.cell?_of_block (a := ⟨b, _, none⟩) hb).trans h1, (World.cell?_of_block (a := ⟨b, _, none⟩) hb).trans h2, (World.cell?_of_block (a := ⟨b, _, none⟩) hb).trans h3, (World.cell?_of_block (a := ⟨b, _, none⟩) hb).trans h4⟩

end Go.Proofs.YtmnhhomkglffcaaGreatDoor
