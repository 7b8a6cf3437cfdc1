/- SessionLasts, walked. -/
import Derived.Test.YtedoaahimpnmnaaSLive
import Derived.Test.YtedoaahimpnmnaaSRows
namespace Go.Proofs.Ytedoaahimpnmnaa
open Go.RowKit Go.Maps Go.Sort Go.Shelf
set_option linter.unusedVariables false
set_option maxRecDepth 20000

/-- one session, begun at b, used at x -/
def lastS (b x : Int) : Sess := ⟨1, bT, bU, b, x⟩
def lastT (b x : Int) : Tab := ⟨2, x, [lastS b x]⟩
theorem timeErr_zero {now noted : Int} (h0 : 0 ≤ now) (h1 : now ≤ 1099511627776) (h2 : noted ≤ now) : timeErr now noted = 0 := by
  unfold timeErr
  rw [if_neg (by omega), if_neg (by omega)]
theorem last_begin {b : Int} (h0 : 0 ≤ b) (h1 : b ≤ 65535) : tBegin tab0 bT bU b = (lastT b b, lastS b b, 0) := by
  have h : tBeginErr tab0 bT bU b = 0 := by
    unfold tBeginErr
    rw [if_neg (by decide +kernel), if_neg (by rw [timeErr_zero h0 (by omega) (by exact h0)]; simp), if_neg (by decide), if_neg (by show ¬ 3 ≤ 0; decide)]
  unfold tBegin
  rw [if_neg (by simp [h])]
  rfl
theorem last_get {b x now : Int} (h0 : 0 ≤ now) (h1 : now ≤ 1099511627776) (h2 : x ≤ now) : tGet (lastT b x) 1 now = if overB (lastS b x) now then (sess0, 12) else (lastS b x, 0) := by
  unfold tGet
  rw [if_neg (by rw [show (lastT b x).noted = x from rfl, timeErr_zero h0 h1 h2]; simp), if_neg (by show ¬ ((1 : Int) < 1 ∨ (2 : Int) ≤ 1); omega)]
  rfl
theorem last_over {b x now : Int} (hb : b ≤ 65535) (hx : x < b + 1000) : overB (lastS b x) now = decide (x + 200 ≤ now ∨ b + 1000 ≤ now) := by
  unfold overB untilOf lastS
  rw [Bool.eq_iff_iff]
  simp
  omega
theorem last_yes {b x now : Int} (h0 : 0 ≤ b) (h1 : b ≤ 65535) (h2 : b ≤ x) (h3 : x ≤ now) (h4 : now < x + 200) (h5 : now < b + 1000) : tTouch (lastT b x) 1 now = (lastT b now, lastS b now, 0) := by
  have h : tGet (lastT b x) 1 now = (lastS b x, 0) := by
    rw [last_get (by omega) (by omega) h3, last_over h1 (by omega), if_neg (by simp; omega)]
  unfold tTouch
  rw [h]
  rfl
theorem last_no {b x now : Int} (h0 : 0 ≤ b) (h1 : b ≤ 65535) (h2 : b ≤ x) (h3 : x ≤ now) (h4 : now < x + 200) (h5 : b + 1000 ≤ now) (h6 : x < b + 1000) : tTouch (lastT b x) 1 now = (lastT b x, sess0, 12) := by
  have h : tGet (lastT b x) 1 now = (sess0, 12) := by
    rw [last_get (by omega) (by omega) h3, last_over h1 (by omega), if_pos (by simp; omega)]
  unfold tTouch
  rw [h]
  rfl
theorem last_end {b x : Int} (h0 : 0 ≤ b) (h1 : b ≤ 65535) (h2 : b ≤ x) (h6 : x < b + 1000) : tGet (lastT b x) 1 (b + 1000) = (sess0, 12) := by
  rw [last_get (by omega) (by omega) (by omega), last_over h1 h6, if_pos (by simp)]
theorem lastT_ok {b x : Int} (h0 : 0 ≤ b) (h1 : b ≤ 65535) (h2 : b ≤ x) (h6 : x < b + 1000) : TabOk (lastT b x) :=
  ⟨List.pairwise_singleton _ _, fun s hs => by rw [List.mem_singleton.1 hs]; exact ⟨(by show (1 : Int) ≤ 1; decide), (by show (1 : Int) < 2; decide)⟩, ⟨by show (1 : Int) ≤ 2; decide, by show (2 : Int) ≤ _; decide⟩, ⟨by show 0 ≤ x; omega, by show x ≤ _; omega⟩, fun s hs => by rw [List.mem_singleton.1 hs]; exact ⟨h0, h2, Int.le_refl _⟩⟩

set_option maxHeartbeats 3200000 in
theorem sessionLasts_walk {w : World} (l : List Int) (a : Option Addr) (cap : Nat) (hl : KIn .u8 w a l) (b : Int) (hb : (Lit.int .u16 b).wf = true) :
    Calls Try.prog 7 #[.slice a l.length cap, .int .u16 b] w fun e w' => e = .returned (.bool true) ∧ Below w.heap.size w w' := by
  obtain ⟨hb0, hb1⟩ := wf_u16 hb
  have hll := hl.length
  unfold maxLen at hll
  have HL := hid lawLive_any
  have HN := hid new_any
  have HB := hid (fun (W : World) (B p mb : Nat) (h : TabAt W B p mb 0 tab0) => by
    have := begin_any h tab0_ok (by omega) (by decide) bT bU b (by decide) (by decide)
    rw [last_begin hb0 hb1] at this
    exact this)
  have Hl := hid hl
  clear hl hb
  go_enter Try.func7, Try.ntmps7
  go_wp2_with (first
    | (go_at_call 12; refine (HN.out _).mono ?_; rintro e w1 ⟨p, mb, rfl, hT1, hbl1⟩)
    | (go_at_call 9; refine (HL.out _).mono ?_; rintro e w2 ⟨rfl, hbl2⟩)
    | (go_at_call 19; refine (HB.out w2 _ p mb (hT1.below hbl2)).mono ?_; rintro e w3 ⟨rfl, hT3, ho3⟩; unfold sessV lastS bT bU))
  have hlt3 := hT3.lts
  have hz1 := hbl1.size
  have hz2 := hbl2.size
  have hz3 := ho3.size
  have hbp := hT3.bp
  have hbm := hT3.bm
  have k3 : Below w.heap.size w w3 := (hbl1.trans (hbl2.mono (by omega))).trans (ho3.below (by omega) (fun k hk => by omega))
  have HT3 := hid (hT3.below ((Below.refl _ w3).alloc (Nat.le_refl _) (.cells #[.int .i64 1, .string ⟨#[116]⟩, .string ⟨#[117]⟩, .int .i64 b, .int .i64 b] 25)))
  have Hk3 := hid (k3.alloc (by omega) (.cells #[.int .i64 1, .string ⟨#[116]⟩, .string ⟨#[117]⟩, .int .i64 b, .int .i64 b] 25))
  clear hT1 hT3 hbl1 hbl2 ho3 k3
  go_loopw [9, 10] (fun nv i wr => ∃ (k : Nat) (x : Int), k ≤ l.length ∧ k ≤ 40 ∧ i = .int .i64 k ∧ nv = .int .i64 x ∧ b ≤ x ∧ x < b + 1000 ∧ TabAt wr w.heap.size p mb (k + 1) (lastT b x) ∧ Below w.heap.size w wr ∧ w3.heap.size < wr.heap.size ∧ wr.cell? ⟨w3.heap.size, 0, none⟩ = some (.int .i64 1))
    (fun _ i _ => 40 - (intOf i).toNat)
  case atStart => exact ⟨0, b, Nat.zero_le _, Nat.zero_le _, rfl, rfl, Int.le_refl _, by omega, HT3.out, Hk3.out, by simp, by rw [World.cell?_alloc_at _ _ _ _ rfl]; rfl⟩
  case round =>
    obtain ⟨k, x, hk, hk40, rfl, rfl, hx0, hx1, hT, hb, hzr, hg⟩ := hrel
    have HT := hid hT
    have Hb := hid hb
    clear hT hb
    by_cases hlt : k < l.length
    · by_cases hlt2 : k < 40
      · have g1 : decide ((k : Int) < (l.length : Int)) = true := by simp; omega
        have g2 : decide ((k : Int) < 40) = true := by simp; omega
        obtain ⟨ba, oa, ea, hc⟩ := (Hl.out.below Hb.out).cells k hlt
        cases ea
        have hz := wf_u8 (Hl.out.wf k hlt)
        generalize l[k] = z at *
        have hm0 : 0 ≤ z % 200 := by omega
        have hm1 : z % 200 < 200 := by omega
        by_cases h5 : x + z % 200 < b + 1000
        · have HY := hid (fun (W : World) (h : TabAt W w.heap.size p mb (k + 1) (lastT b x)) => by
            have := touch_any h (lastT_ok hb0 hb1 hx0 hx1) (by omega) 1 (x + z % 200)
            rw [last_yes hb0 hb1 hx0 (by omega) (by omega) h5] at this
            exact this)
          go_wp2_with (first
            | (go_at_call 17; refine (HY.out _ HT.out).mono ?_; rintro e w5 ⟨rfl, hT5, ho5⟩; unfold sessV lastS bT bU))
          have hg5 := ((ho5.cells w3.heap.size hzr (by omega)).1 0).trans hg
          have hz5 := ho5.size
          have k5 : Below w.heap.size w w5 := Hb.out.trans (ho5.below (by omega) (fun k hk => by omega))
          go_roundw
          case rel => exact ⟨k + 1, x + z % 200, by omega, by omega, by go_num, rfl, by omega, h5, hT5.below ((Below.refl _ w5).alloc (Nat.le_refl _) _), k5.alloc (by omega) _, by simp; omega, (World.cell?_alloc_past _ _ _ (by omega)).trans hg5⟩
          case measure => simp [intOf]; omega
        · have HY := hid (fun (W : World) (h : TabAt W w.heap.size p mb (k + 1) (lastT b x)) => by
            have := touch_any h (lastT_ok hb0 hb1 hx0 hx1) (by omega) 1 (x + z % 200)
            rw [last_no hb0 hb1 hx0 (by omega) (by omega) (by omega) hx1] at this
            exact this)
          go_wp2_with (first
            | (go_at_call 17; refine (HY.out _ HT.out).mono ?_; rintro e w5 ⟨rfl, hT5, ho5⟩; unfold sessV sess0))
          have hz5 := ho5.size
          have k5 : Below w.heap.size w w5 := Hb.out.trans (ho5.below (by omega) (fun k hk => by omega))
          go_ret
          exact ⟨rfl, k5.alloc (by omega) _⟩
      · have g1 : decide ((k : Int) < (l.length : Int)) = true := by simp; omega
        have g2 : decide ((k : Int) < 40) = false := by simp; omega
        have HG := hid (fun (W : World) (h : TabAt W w.heap.size p mb (k + 1) (lastT b x)) => by
          have := get_any h (lastT_ok hb0 hb1 hx0 hx1) 1 (b + 1000)
          rw [last_end hb0 hb1 hx0 hx1] at this
          exact this)
        go_wp2_with (first
          | (go_at_call 16; refine (HG.out _ HT.out).mono ?_; rintro e w5 ⟨rfl, hb5⟩; unfold sessV sess0))
        go_ret
        exact ⟨rfl, (Below.on' Hb.out hb5).alloc (by have := hb5.size; omega) _⟩
    · have HG := hid (fun (W : World) (h : TabAt W w.heap.size p mb (k + 1) (lastT b x)) => by
        have := get_any h (lastT_ok hb0 hb1 hx0 hx1) 1 (b + 1000)
        rw [last_end hb0 hb1 hx0 hx1] at this
        exact this)
      have g1 : decide ((k : Int) < (l.length : Int)) = false := by simp; omega
      go_wp2_with (first
        | (go_at_call 16; refine (HG.out _ HT.out).mono ?_; rintro e w5 ⟨rfl, hb5⟩; unfold sessV sess0))
      go_ret
      exact ⟨rfl, (Below.on' Hb.out hb5).alloc (by have := hb5.size; omega) _⟩
end Go.Proofs.Ytedoaahimpnmnaa
