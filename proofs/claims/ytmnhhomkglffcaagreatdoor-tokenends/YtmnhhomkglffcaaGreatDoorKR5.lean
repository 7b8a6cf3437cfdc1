/- The reference's ends, End, EndSessions, EndClient, Sweep: that they end, and what they leave. -/
import Derived.Test.YtmnhhomkglffcaaGreatDoorKR4
namespace Go.Proofs.YtmnhhomkglffcaaGreatDoor
open Go.RowKit Go.Maps Go.Sort Go.Shelf
set_option linter.unusedVariables false
set_option maxRecDepth 20000

theorem Ints.out {w w' : World} {r B : Nat} {a : Option Addr} {zs : List Int} (h : Ints w a zs) (ha : ∀ ad, a = some ad → zs ≠ [] → ad.block < B) (hb : ∀ k, k < B → w'.heap[k]? = w.heap[k]?) : Ints w' a zs := fun i hi => by
  obtain ⟨b, o, rfl, h0⟩ := h i hi
  have hb : w'.heap[b]? = w.heap[b]? := hb b (ha _ rfl (fun e => by rw [e] at hi; simp at hi))
  exact ⟨b, o, rfl, (World.cell?_of_block (a := ⟨b, _, none⟩) hb).trans h0⟩

/-- an error, and a store that has no more than there was -/
def EndPost (w : World) (B r n m : Nat) (e : Ending) (w' : World) : Prop := (∃ z : Int, e = .returned (.int .i64 z)) ∧ Less w' B r n m ∧ Out (fun k => k = r) w w'
theorem own_out3 {w3 w4 w : World} {r : Nat} {e : TypeId} {size n : Nat} {v : Value} {xs : List Value} (h : w3.ownsRow w.heap.size e size v n xs) (o : Out (fun k => k = r) w3 w4) (hr : r < w.heap.size) : w4.ownsRow w.heap.size e size v n xs := h.kept (grown_of_out o) (.inr (own_ne' h hr))
set_option maxHeartbeats 3200000 in
theorem rEnds_any {w : World} {B r : Nat} {a : Option Addr} {c : Nat} {a' : Option Addr} {c' : Nat} {U : Sto} (h : RAt w B r a c a' c' U) (hB : B ≤ w.heap.size) (hl : U.fs.length ≤ 1000000000) (hl' : U.ts.length ≤ 1000000000) (cli : ByteArray)
    {sa : Option Addr} {zs : List Int} (hs : Ints w sa zs) (hsb : ∀ ad, sa = some ad → zs ≠ [] → ad.block < B) (sc : Nat) (hzs : zs.length ≤ maxLen) :
    Calls Tryz.prog 65 #[.pointer (some ⟨r, 0, none⟩), .string cli, .slice sa zs.length sc] w (EndsPost w B r U.fs.length U.ts.length) := by
  have hr := h.lt
  have hbr := h.br
  have c3 := h.c3
  have H := hid h
  have Hs := hid hs
  clear h hs
  generalize hN : U.fs.length = N at *
  have HN := hid hN
  clear hN
  generalize hM : U.ts.length = M at *
  have HM := hid hM
  clear hM
  have Hold : Hid (∀ wr, Out (fun k => k = r) w wr → Fam.SIn wr a U.fs ∧ Ints wr sa zs) := fun wr ho => ⟨SIn_out (r := r) H.out.sinf (fun ad e => by
      have hk := (H.out.lts ad.block (.inr (.inl ⟨ad, e, rfl⟩))).2
      exact ho.block _ hk (fun e2 => H.out.nef (by rw [e, HN.out]; exact congrArg some e2))), Hs.out.out (r := r) hsb (fun k hk => ho.block k (by omega) (by omega))⟩
  go_enter Tryz.func65, Tryz.ntmps65
  go_wp2
  go_loopw [7, 9] (fun v i wr => ∃ k : Nat, k ≤ N ∧ i = .int .i64 k ∧ EndsRel w B r N M v k wr) (fun _ i _ => N - (intOf i).toNat)
  case atStart => exact ⟨0, Nat.zero_le _, rfl, ⟨[], Nat.le_refl _, World.ownsRow_nil _ _ _ _⟩, ⟨_, _, _, _, _, H.out, by rw [HN.out]; exact Nat.le_refl _, by rw [HM.out]; exact Nat.le_refl _⟩, Out.refl _ _⟩
  case round =>
    obtain ⟨k, hk, rfl, ⟨os, hos, hrow⟩, hless, ho⟩ := hrel
    have Ho := hid ho
    have Hrow := hid hrow
    have Hless := hid hless
    have hz : w.heap.size ≤ wr.heap.size := ho.size
    obtain ⟨hsin, hin⟩ := Hold.out wr ho
    clear ho hrow hless
    by_cases hlt : k < N
    · have Hg : Hid (U.fs[k]? = some (U.fs[k]'(by rw [HN.out]; exact hlt))) := List.getElem?_eq_getElem _
      generalize U.fs[k]'(by rw [HN.out]; exact hlt) = s at *
      obtain ⟨_, b, o, ea, d0, d1, d2, d3, d4⟩ := hsin.at Hg.out
      cases ea
      clear hsin
      have Hin := hid (rIn_any hin sc hzs s.ses)
      clear hin
      cases hb1 : hasB zs s.ses
      · rw [hb1] at Hin
        clear hb1
        go_wp2_with (first
          | (go_at_call 85; refine Hin.out.mono ?_; rintro e w2 ⟨rfl, rfl⟩)
          | go_in)
        go_roundw
        case rel => exact ⟨k + 1, by omega, by go_num, ⟨os, by omega, Hrow.out⟩, Hless.out, Ho.out⟩
        case measure => simp [intOf]; omega
      · rw [hb1] at Hin
        clear hb1
        have Hx : Hid (∀ w3, wr.grownBy w3 u7.ownBlock → Fam.SIn w3 (some ⟨b, o, none⟩) U.fs ∧ Calls Tryz.prog 60 #[.pointer (some ⟨r, 0, none⟩), .int .i64 s.id] w3 fun e w4 => e = .returned (.tuple #[]) ∧ Less w4 B r N M ∧ Out (fun k => k = r) w w4 ∧ ∀ v, w3.ownsRow w.heap.size 3 1 v (os ++ [s.id]).length (zCells (os ++ [s.id])) → w4.ownsRow w.heap.size 3 1 v (os ++ [s.id]).length (zCells (os ++ [s.id]))) := fun w3 hg3 => by
          obtain ⟨a1, c1, a1', c1', U1, hR1, hU1, hU1'⟩ := Hless.out
          have hR3 := hR1.grown Hrow.out hg3 hr
          have b3 := more_below Hrow.out hz hg3
          have o3 : Out (fun k => k = r) w w3 := ⟨b3.os.trans Ho.out.os, b3.tape.trans Ho.out.tape, b3.output.trans Ho.out.output, Nat.le_trans hz b3.size, fun k hk hp => (b3.block k hk).trans (Ho.out.block k hk hp)⟩
          refine ⟨(Hold.out w3 o3).1, (rDrop_any hR3 (Nat.le_trans hB (Nat.le_trans hz b3.size)) (by omega) (by omega) s.id).mono ?_⟩
          rintro e w4 ⟨rfl, ⟨a2, c2, a2', c2', U2, hR2, h21, h22, _⟩, o4⟩
          exact ⟨rfl, ⟨a2, c2, a2', c2', U2, hR2, by omega, by omega⟩, o3.trans o4 (fun _ _ e => e), fun v hv => own_out3 hv o4 hr⟩
        cases hc1 : (cli.toList == [])
        · cases hc2 : (s.cli.toList == cli.toList)
          · go_wp2_with (first
              | (go_at_call 85; refine Hin.out.mono ?_; rintro e w2 ⟨rfl, rfl⟩)
              | go_in)
            go_roundw
            case rel => exact ⟨k + 1, by omega, by go_num, ⟨os, by omega, Hrow.out⟩, Hless.out, Ho.out⟩
            case measure => simp [intOf]; omega
          · go_wp2_with (first
              | (go_at_call 85; refine Hin.out.mono ?_; rintro e w2 ⟨rfl, rfl⟩)
              | (go_at_call 60; refine HD3.out.mono ?_; rintro e w4 ⟨rfl, hless4, ho4, hrow4⟩)
              | (at_builtin; refine app_int _ rfl _ _ rfl w.heap.size u7 os rfl Hrow.out s.id rfl (by omega) hz ?_; intro v' w3 hrow3 hg3; obtain ⟨hsin3, hdrop3⟩ := Hx.out w3 hg3; obtain ⟨_, b3, o3, ea3, x0, x1, x2, x3, x4⟩ := hsin3.at Hg.out; cases ea3; have Hrow3 := hid hrow3; have HD3 := hid hdrop3; clear hrow3 hg3 hdrop3 hsin3)
              | go_in)
            go_roundw
            case rel => exact ⟨k + 1, by omega, by go_num, ⟨os ++ [s.id], by simp; omega, hrow4 _ Hrow3.out⟩, hless4, ho4⟩
            case measure => simp [intOf]; omega
        · go_wp2_with (first
            | (go_at_call 85; refine Hin.out.mono ?_; rintro e w2 ⟨rfl, rfl⟩)
            | (go_at_call 60; refine HD3.out.mono ?_; rintro e w4 ⟨rfl, hless4, ho4, hrow4⟩)
            | (at_builtin; refine app_int _ rfl _ _ rfl w.heap.size u7 os rfl Hrow.out s.id rfl (by omega) hz ?_; intro v' w3 hrow3 hg3; obtain ⟨hsin3, hdrop3⟩ := Hx.out w3 hg3; obtain ⟨_, b3, o3, ea3, x0, x1, x2, x3, x4⟩ := hsin3.at Hg.out; cases ea3; have Hrow3 := hid hrow3; have HD3 := hid hdrop3; clear hrow3 hg3 hdrop3 hsin3)
            | go_in)
          go_roundw
          case rel => exact ⟨k + 1, by omega, by go_num, ⟨os ++ [s.id], by simp; omega, hrow4 _ Hrow3.out⟩, hless4, ho4⟩
          case measure => simp [intOf]; omega
    · have e : k = N := by omega
      clear hsin hin
      subst e
      obtain ⟨a9, c9, e9, hi9, _⟩ := ints_of_own Hrow.out
      subst e9
      go_wp2
      go_ret
      exact ⟨⟨_, _, _, rfl, Hrow.out, hos⟩, Hless.out, Ho.out⟩

set_option maxHeartbeats 800000 in
theorem rEnd_any {w : World} {B r : Nat} {a : Option Addr} {c : Nat} {a' : Option Addr} {c' : Nat} {U : Sto} (h : RAt w B r a c a' c' U) (hB : B ≤ w.heap.size) (hl : U.fs.length ≤ 1000000000) (hl' : U.ts.length ≤ 1000000000) (id : Int) :
    Calls Tryz.prog 25 #[.pointer (some ⟨r, 0, none⟩), .int .i64 id] w (EndPost w B r U.fs.length U.ts.length) := by
  have Hf := hid (rFind_any h hl id)
  have Hd := hid (rDrop_any h hB hl hl' id)
  have H := hid h
  clear h
  go_enter Tryz.func25, Tryz.ntmps25
  go_wp2_with (first
    | (go_at_call 59; refine Hf.out.mono ?_; rintro e w2 ⟨⟨i, z, rfl, hz⟩, rfl⟩; clear hz)
    | (go_at_call 60; refine Hd.out.mono ?_; rintro e w3 ⟨rfl, hl3, ho3⟩))
  all_goals go_ret
  all_goals first
    | exact ⟨⟨_, rfl⟩, hl3.less, ho3⟩
    | exact ⟨⟨_, rfl⟩, ⟨_, _, _, _, _, H.out, Nat.le_refl _, Nat.le_refl _⟩, Out.refl _ _⟩

set_option maxHeartbeats 800000 in
theorem rEndSessions_any {w : World} {B r : Nat} {a : Option Addr} {c : Nat} {a' : Option Addr} {c' : Nat} {U : Sto} (h : RAt w B r a c a' c' U) (hB : B ≤ w.heap.size) (hl : U.fs.length ≤ 1000000000) (hl' : U.ts.length ≤ 1000000000)
    {sa : Option Addr} {zs : List Int} (hs : Ints w sa zs) (hsb : ∀ ad, sa = some ad → zs ≠ [] → ad.block < B) (sc : Nat) (hzs : zs.length ≤ maxLen) :
    Calls Tryz.prog 27 #[.pointer (some ⟨r, 0, none⟩), .slice sa zs.length sc] w (EndsPost w B r U.fs.length U.ts.length) := by
  have Hd := hid (rEnds_any h hB hl hl' ⟨#[]⟩ hs hsb sc hzs)
  clear h hs hsb
  go_enter Tryz.func27, Tryz.ntmps27
  go_wp2_with (go_at_call 65; refine Hd.out.mono ?_; rintro e w3 ⟨⟨a3, c3, z3, rfl, h31, h32⟩, hl3, ho3⟩)
  go_ret
  exact ⟨⟨_, _, _, rfl, h31, h32⟩, hl3, ho3⟩

set_option maxHeartbeats 800000 in
theorem rEndClient_any {w : World} {B r : Nat} {a : Option Addr} {c : Nat} {a' : Option Addr} {c' : Nat} {U : Sto} (h : RAt w B r a c a' c' U) (hB : B ≤ w.heap.size) (hl : U.fs.length ≤ 1000000000) (hl' : U.ts.length ≤ 1000000000) (cli : ByteArray)
    {sa : Option Addr} {zs : List Int} (hs : Ints w sa zs) (hsb : ∀ ad, sa = some ad → zs ≠ [] → ad.block < B) (sc : Nat) (hzs : zs.length ≤ maxLen) :
    Calls Tryz.prog 29 #[.pointer (some ⟨r, 0, none⟩), .string cli, .slice sa zs.length sc] w (EndsPost w B r U.fs.length U.ts.length) := by
  have Hd := hid (rEnds_any h hB hl hl' cli hs hsb sc hzs)
  have H := hid h
  clear h hs hsb
  cases hc1 : (cli.toList == [])
  · go_enter Tryz.func29, Tryz.ntmps29
    go_wp2_with (go_at_call 65; refine Hd.out.mono ?_; rintro e w3 ⟨⟨a3, c3, z3, rfl, h31, h32⟩, hl3, ho3⟩)
    go_ret
    exact ⟨⟨_, _, _, rfl, h31, h32⟩, hl3, ho3⟩
  · go_enter Tryz.func29, Tryz.ntmps29
    go_wp2
    go_ret
    exact ⟨⟨none, 0, [], rfl, World.ownsRow_nil _ _ _ _, Nat.zero_le _⟩, ⟨_, _, _, _, _, H.out, Nat.le_refl _, Nat.le_refl _⟩, Out.refl _ _⟩

/-- a number and an error, and a store that has no more than there was -/
def SweepPost (w : World) (B r n m : Nat) (e : Ending) (w' : World) : Prop := (∃ y z : Int, e = .returned (.tuple #[.int .i64 y, .int .i64 z])) ∧ Less w' B r n m ∧ Out (fun k => k = r) w w'

def SwRel (W : World) (M : Nat) (v q i : Value) (wr : World) : Prop := ∃ (j : Nat) (y : Int), j ≤ M ∧ q = .int .i64 y ∧ i = .int .i64 j ∧ KRow W W.heap.size v j wr
set_option maxHeartbeats 1600000 in
theorem rSweep_any {w : World} {B r : Nat} {a : Option Addr} {c : Nat} {a' : Option Addr} {c' : Nat} {U : Sto} (h : RAt w B r a c a' c' U) (hB : B ≤ w.heap.size) (hl' : U.ts.length ≤ 1000000000) (now : Int) :
    Calls Tryz.prog 31 #[.pointer (some ⟨r, 0, none⟩), .int .i64 now] w (SweepPost w B r U.fs.length U.ts.length) := by
  have hr := h.lt
  have c2 := h.c2
  have z2 := h.z 2
  have Ht := hid (rTime_any h now)
  have H := hid h
  obtain ⟨W, hW⟩ : ∃ W, W = w.setCell ⟨r, 2, none⟩ (.int .i64 now) := ⟨_, rfl⟩
  have hRW := h.set2 now
  have sW : W.heap.size = w.heap.size := by rw [hW]; simp [World.setCell]
  rw [← hW] at hRW
  have oW : Out (fun k => k = r) w W := by rw [hW]; exact (Out.refl (fun k => k = r) w).setCell _ _ rfl
  have HRW := hid hRW
  have HW := hid hW
  have OW := hid oW
  have SW := hid sW
  clear h hW hRW oW sW
  generalize hM : U.ts.length = M at *
  have HM := hid hM
  clear hM
  go_enter Tryz.func31, Tryz.ntmps31
  go_wp2_with (go_at_call 58; refine Ht.out.mono ?_; rintro e w2 ⟨z, rfl, rfl⟩)
  · go_ret2
    exact ⟨⟨_, _, rfl⟩, ⟨_, _, _, _, _, H.out, Nat.le_refl _, by rw [HM.out]; exact Nat.le_refl _⟩, Out.refl _ _⟩
  rw [← HW.out]
  go_loopw [7, 8, 9] (fun v q i wr => SwRel W M v q i wr) (fun _ _ i _ => M - (intOf i).toNat)
  case atStart => exact ⟨0, 0, Nat.zero_le _, rfl, rfl, [], Nat.le_refl _, World.ownsRow_nil _ _ _ _, Below.refl _ _⟩
  case round =>
    obtain ⟨j, y, hj, rfl, rfl, m, hmj, hrow2, hb2⟩ := hrel
    have Hb2 := hid hb2
    have Hrow2 := hid hrow2
    have hR := HRW.out.below hb2
    have c4 := hR.c4
    rw [show (⟨now, U.nf, U.fs, U.nt, U.ts⟩ : Sto).ts.length = M from HM.out] at c4
    have hz2 : W.heap.size ≤ wr.heap.size := hb2.size
    have z4 := hR.z 4
    have HR := hid hR
    clear hb2 hrow2
    by_cases hlt2 : j < M
    · have Hg : Hid (U.ts[j]? = some (U.ts[j]'(by rw [HM.out]; exact hlt2))) := List.getElem?_eq_getElem _
      generalize U.ts[j]'(by rw [HM.out]; exact hlt2) = t at *
      obtain ⟨_, b, o, ea, d0, d1, d2, d3⟩ := hR.sint.at Hg.out
      cases ea
      clear hR
      by_cases he : now < t.unt
      · have b1 : decide (now < t.unt) = true := by simpa using he
        go_wp2_with (first
          | (at_builtin; refine Tok.app_sess _ rfl _ _ rfl W.heap.size u7 m rfl Hrow2.out t rfl (by omega) hz2 ?_; intro v' w3 hrow3 hg3)
          | go_in)
        go_roundw
        case rel => first
          | exact ⟨j + 1, y, by omega, rfl, by go_num, m ++ [t], by simp; omega, hrow3, Hb2.out.trans (more_below Hrow2.out hz2 hg3)⟩
          | ((repeat apply Exists.intro); exact ⟨⟨j + 1, y, by omega, rfl, by go_num, m ++ [t], by simp; omega, hrow3, Hb2.out.trans (more_below Hrow2.out hz2 hg3)⟩, rfl, rfl, rfl⟩)
        case measure => simp [intOf]; omega
      · have b1 : decide (now < t.unt) = false := by simpa using he
        go_wp2
        go_roundw
        case rel => exact ⟨j + 1, _, by omega, rfl, by go_num, m, by omega, Hrow2.out, Hb2.out⟩
        case measure => simp [intOf]; omega
    · have e : j = M := by omega
      clear hR
      subst e
      obtain ⟨a8, c8, e8, _⟩ := Tok.sess_of_own Hrow2.out
      subst e8
      go_wp2
      go_ret2
      have sW := SW.out
      have r2 := HR.out.set4 (Hrow2.out.mono (by omega)) (own_ne' Hrow2.out (by omega))
      exact ⟨⟨_, _, rfl⟩, ⟨_, _, _, _, _, r2, Nat.le_refl _, hmj⟩, (OW.out.trans (Out.of_below Hb2.out) (fun _ _ e => e)).setCell ⟨r, 4, none⟩ _ rfl⟩
end Go.Proofs.YtmnhhomkglffcaaGreatDoor
