/- SessionApart, walked. -/
import Derived.Test.YtedoaahimpnmnaaSApart
namespace Go.Proofs.Ytedoaahimpnmnaa
open Go.RowKit Go.Maps Go.Sort Go.Shelf
set_option linter.unusedVariables false
set_option maxRecDepth 20000

set_option maxHeartbeats 6400000 in
theorem sessionApart_walk {w : World} (l : List Int) (a : Option Addr) (cap : Nat) (hl : KIn .u16 w a l) (q : List Bool) (qa : Option Addr) (qcap : Nat) (hq : BIn w qa q) :
    Calls Try.prog 6 #[.slice a l.length cap, .slice qa q.length qcap] w fun e w' => e = .returned (.bool true) ∧ Below w.heap.size w w' := by
  have hll := hl.length
  have hql := hq.length
  unfold maxLen at hll hql
  have HL := hid lawLive_any
  have HN := hid new_any
  have Hl := hid hl
  have Hq := hid hq
  clear hl hq
  go_enter Try.func6, Try.ntmps6
  go_wp2_with (first
    | (go_at_call 9; refine (HL.out _).mono ?_; rintro e w3 ⟨rfl, hbl3⟩)
    | (go_at_call 12; refine (HN.out w1).mono ?_; rintro e w2 ⟨pc, mc, rfl, hC2, hbl2⟩)
    | (go_at_call 12; refine (HN.out _).mono ?_; rintro e w1 ⟨pa, ma, rfl, hA1, hbl1⟩))
  have hA3 := (hA1.below hbl2).below hbl3
  have hC3 := hC2.below hbl3
  have sA := hA1.lts
  have sC := hC2.lts
  have uA := hA1.bp
  have uA' := hA1.bm
  have uC := hC2.bp
  have uC' := hC2.bm
  have z1 := hbl1.size
  have z2 := hbl2.size
  have z3 := hbl3.size
  have k3 : Below w.heap.size w w3 := Below.on' (Below.on' hbl1 hbl2) hbl3
  have hbo : Below w3.heap.size w3 ((w3.alloc (.cells #[.string ⟨#[116]⟩, .string ⟨#[117]⟩] 23)).alloc (.cells #[.string ⟨#[116]⟩, .string ⟨#[118]⟩] 23)) := ((Below.refl _ _).alloc (Nat.le_refl _) _).alloc (by simp) _
  have HR0 : Hid (ARel w w3.heap.size pa ma pc mc 0 0 ((w3.alloc (.cells #[.string ⟨#[116]⟩, .string ⟨#[117]⟩] 23)).alloc (.cells #[.string ⟨#[116]⟩, .string ⟨#[118]⟩] 23))) :=
    ⟨tab0, tab0, 0, 0, Nat.le_refl _, Nat.le_refl _, hA3.below hbo, (hC3.below hbo).mono (by omega), tab0_ap, Below.on' k3 hbo, by simp,
      by rw [World.cell?_alloc_past _ _ _ (by simp), World.cell?_alloc_at _ _ _ _ rfl]; rfl, by rw [World.cell?_alloc_past _ _ _ (by simp), World.cell?_alloc_at _ _ _ _ rfl]; rfl, by rw [World.cell?_alloc_at _ _ _ _ (by simp)]; rfl, by rw [World.cell?_alloc_at _ _ _ _ (by simp)]; rfl⟩
  clear hA1 hC2 hA3 hC3 hbl1 hbl2 hbl3 k3 hbo
  go_loopw [9, 10] (fun nv i wr => ∃ (k : Nat) (x : Int), k ≤ l.length ∧ k ≤ 40 ∧ i = .int .i64 k ∧ nv = .int .i64 x ∧ 0 ≤ x ∧ x ≤ 150 * k ∧ ARel w w3.heap.size pa ma pc mc k x wr)
    (fun _ i _ => 40 - (intOf i).toNat)
  case atStart => exact ⟨0, 0, Nat.zero_le _, Nat.zero_le _, rfl, rfl, Int.le_refl _, by omega, HR0.out⟩
  case round =>
    obtain ⟨k, x, hk, hk40, rfl, rfl, hx0, hx1, A, C, nA, nC, hnA, hnC, hTA, hTC, hap, hb, hzr, o0, o1, v0, v1⟩ := hrel
    have HTA := hid hTA
    have HTC := hid hTC
    have Hap := hid hap
    have Hb := hid hb
    have hlA := hap.la
    have hlC := hap.lc
    clear hTA hTC hap hb HR0
    by_cases hlt : k < l.length
    · have g1 : decide ((k : Int) < (l.length : Int)) = true := by simp; omega
      by_cases hlt2 : k < 40
      · have g2 : decide ((k : Int) < 40) = true := by simp; omega
        obtain ⟨ba, oa, ea, hc⟩ := (Hl.out.below Hb.out).cells k hlt
        cases ea
        have hz := wf_u16 (Hl.out.wf k hlt)
        generalize l[k] = z at *
        have hm0 : 0 ≤ z % 150 := by omega
        have hm1 : z % 150 < 150 := by omega
        have hother : ∀ W, TabAt W w.heap.size pa ma nA A → _ := fun W h => begin_any h Hap.out.ka (by omega) (by omega) bT bV (x + z % 150) (by decide) (by decide)
        have HO := hid hother
        have hmineA : ∀ W, TabAt W w.heap.size pa ma nA A → _ := fun W h => begin_any h Hap.out.ka (by omega) (by omega) bT bU (x + z % 150) (by decide) (by decide)
        have hmineC : ∀ W, TabAt W w.heap.size pc mc nC C → _ := fun W h => begin_any h Hap.out.kc (by omega) (by omega) bT bU (x + z % 150) (by decide) (by decide)
        have hapO := ap_other Hap.out (x' := x + z % 150) (by omega) (by omega) (by omega) (by omega)
        have hapB := ap_both Hap.out (x' := x + z % 150) (by omega) (by omega) (by omega) (by omega)
        have HapO := hid hapO
        by_cases hq1 : k < q.length
        · have g3 : decide ((k : Int) < (q.length : Int)) = true := by simp; omega
          obtain ⟨bq, oq, eq, hcq⟩ := (Hq.out.below Hb.out).cells k hq1
          cases eq
          generalize q[k] = qk at *
          cases qk
          · rcases hapB.2 with ⟨e1, e2⟩ | ⟨e1, e2⟩
            · have HmA := hid (fun W (h : TabAt W w.heap.size pa ma nA A) => by
                have := hmineA W h
                rw [e1] at this
                exact this)
              have HmC := hid (fun W (h : TabAt W w.heap.size pc mc nC C) => by
                have := hmineC W h
                rw [e2] at this
                exact this)
              have hapB1 := hid hapB.1
              clear hmineA hmineC hapB hapO hother HO HapO e1 e2
              go_wp2_with (first
                | (go_at_call 19; refine (HmC.out _ ((HTC.out.keep (ho5.block pc HTC.out.lts.1 (by omega)) (ho5.block mc HTC.out.lts.2 (by omega))).below ((Below.refl _ w5).alloc (Nat.le_refl _) _))).mono ?_; rintro e w6 ⟨rfl, hT6, ho6⟩; unfold sessV begun; obtain ⟨xA, xAf⟩ := ho6.cells w5.heap.size (by simp) (by omega); have z6 : w5.heap.size < w6.heap.size := (by have := ho6.size; simp at this; omega))
                | (go_at_call 19; refine (HmA.out _ HTA.out).mono ?_; rintro e w5 ⟨rfl, hT5, ho5⟩; unfold sessV begun; have z5 := ho5.size; have p5 := (ho5.cells w3.heap.size (by omega) (by omega)).1; have p50 := (p5 0).trans o0; have p51 := (p5 1).trans o1; have zw5 : w3.heap.size < w5.heap.size := (by omega)))
              have k5 : Below w.heap.size w w5 := Hb.out.trans (ho5.below (by omega) (fun k hk => by omega))
              have hT6A := ((hT5.below ((Below.refl _ w5).alloc (Nat.le_refl _) (.cells #[.int .i64 A.next, .string bT, .string bU, .int .i64 (x + z % 150), .int .i64 (x + z % 150)] 25))).keep (ho6.block pa (by simp; omega) (by omega)) (ho6.block ma (by simp; omega) (by omega))).below ((Below.refl _ w6).alloc (Nat.le_refl _) (.cells #[.int .i64 C.next, .string bT, .string bU, .int .i64 (x + z % 150), .int .i64 (x + z % 150)] 25))
              have hT6C := hT6.below ((Below.refl _ w6).alloc (Nat.le_refl _) (.cells #[.int .i64 C.next, .string bT, .string bU, .int .i64 (x + z % 150), .int .i64 (x + z % 150)] 25))
              have k6 : Below w.heap.size w w6 := (k5.alloc (by omega) _).trans (ho6.below (by simp; omega) (fun k hk => by omega))
              have s6 : ∀ b o v, b < w3.heap.size + 2 → b ≠ pa → b ≠ ma → b ≠ pc → b ≠ mc → wr.cell? ⟨b, o, none⟩ = some v → (w6.alloc (.cells #[.int .i64 C.next, .string bT, .string bU, .int .i64 (x + z % 150), .int .i64 (x + z % 150)] 25)).cell? ⟨b, o, none⟩ = some v := fun b o v hb1 hb2 hb3 hb4 hb5 hv => by
                rw [World.cell?_alloc_past _ _ _ (by omega), (ho6.cells b (by simp; omega) (by omega)).1, World.cell?_alloc_past _ _ _ (by omega), (ho5.cells b (by omega) (by omega)).1]
                exact hv
              go_roundw
              case rel => exact ⟨k + 1, x + z % 150, by omega, by omega, by go_num, rfl, by omega, by omega, _, _, nA + 1, nC + 1, by omega, by omega, hT6A, hT6C, hapB1.out, k6.alloc (by omega) _, by simp; omega, s6 _ _ _ (by omega) (by omega) (by omega) (by omega) (by omega) o0, s6 _ _ _ (by omega) (by omega) (by omega) (by omega) (by omega) o1, s6 _ _ _ (by omega) (by omega) (by omega) (by omega) (by omega) v0, s6 _ _ _ (by omega) (by omega) (by omega) (by omega) (by omega) v1⟩
              case measure => simp [intOf]; omega
            · have HmA := hid (fun W (h : TabAt W w.heap.size pa ma nA A) => by
                have := hmineA W h
                rw [e1] at this
                exact this)
              have HmC := hid (fun W (h : TabAt W w.heap.size pc mc nC C) => by
                have := hmineC W h
                rw [e2] at this
                exact this)
              have hapB1 := hid hapB.1
              clear hmineA hmineC hapB hapO hother HO HapO e1 e2
              go_wp2_with (first
                | (go_at_call 19; refine (HmC.out _ ((HTC.out.keep (ho5.block pc HTC.out.lts.1 (by omega)) (ho5.block mc HTC.out.lts.2 (by omega))).below ((Below.refl _ w5).alloc (Nat.le_refl _) _))).mono ?_; rintro e w6 ⟨rfl, hT6, ho6⟩; unfold sessV sess0; obtain ⟨xA, xAf⟩ := ho6.cells w5.heap.size (by simp) (by omega); have z6 : w5.heap.size < w6.heap.size := (by have := ho6.size; simp at this; omega))
                | (go_at_call 19; refine (HmA.out _ HTA.out).mono ?_; rintro e w5 ⟨rfl, hT5, ho5⟩; unfold sessV sess0; have z5 := ho5.size; have p5 := (ho5.cells w3.heap.size (by omega) (by omega)).1; have p50 := (p5 0).trans o0; have p51 := (p5 1).trans o1; have zw5 : w3.heap.size < w5.heap.size := (by omega)))
              have k5 : Below w.heap.size w w5 := Hb.out.trans (ho5.below (by omega) (fun k hk => by omega))
              have hT6A := ((hT5.below ((Below.refl _ w5).alloc (Nat.le_refl _) (.cells #[.int .i64 0, .string ⟨#[]⟩, .string ⟨#[]⟩, .int .i64 0, .int .i64 0] 25))).keep (ho6.block pa (by simp; omega) (by omega)) (ho6.block ma (by simp; omega) (by omega))).below ((Below.refl _ w6).alloc (Nat.le_refl _) (.cells #[.int .i64 0, .string ⟨#[]⟩, .string ⟨#[]⟩, .int .i64 0, .int .i64 0] 25))
              have hT6C := hT6.below ((Below.refl _ w6).alloc (Nat.le_refl _) (.cells #[.int .i64 0, .string ⟨#[]⟩, .string ⟨#[]⟩, .int .i64 0, .int .i64 0] 25))
              have k6 : Below w.heap.size w w6 := (k5.alloc (by omega) _).trans (ho6.below (by simp; omega) (fun k hk => by omega))
              have s6 : ∀ b o v, b < w3.heap.size + 2 → b ≠ pa → b ≠ ma → b ≠ pc → b ≠ mc → wr.cell? ⟨b, o, none⟩ = some v → (w6.alloc (.cells #[.int .i64 0, .string ⟨#[]⟩, .string ⟨#[]⟩, .int .i64 0, .int .i64 0] 25)).cell? ⟨b, o, none⟩ = some v := fun b o v hb1 hb2 hb3 hb4 hb5 hv => by
                rw [World.cell?_alloc_past _ _ _ (by omega), (ho6.cells b (by simp; omega) (by omega)).1, World.cell?_alloc_past _ _ _ (by omega), (ho5.cells b (by omega) (by omega)).1]
                exact hv
              go_roundw
              case rel => exact ⟨k + 1, x + z % 150, by omega, by omega, by go_num, rfl, by omega, by omega, _, _, nA + 1, nC + 1, by omega, by omega, hT6A, hT6C, hapB1.out, k6.alloc (by omega) _, by simp; omega, s6 _ _ _ (by omega) (by omega) (by omega) (by omega) (by omega) o0, s6 _ _ _ (by omega) (by omega) (by omega) (by omega) (by omega) o1, s6 _ _ _ (by omega) (by omega) (by omega) (by omega) (by omega) v0, s6 _ _ _ (by omega) (by omega) (by omega) (by omega) (by omega) v1⟩
              case measure => simp [intOf]; omega
          · clear hmineA hmineC hapB hapO hother
            go_wp2_with (first
              | (go_at_call 19; refine (HO.out _ HTA.out).mono ?_; rintro e w5 ⟨rfl, hT5, ho5⟩))
            have z5 := ho5.size
            have k5 : Below w.heap.size w w5 := Hb.out.trans (ho5.below (by omega) (fun k hk => by omega))
            go_roundw
            case rel => exact ⟨k + 1, x + z % 150, by omega, by omega, by go_num, rfl, by omega, by omega, _, C, nA + 1, nC, by omega, by omega, hT5, HTC.out.keep (ho5.block pc HTC.out.lts.1 (by omega)) (ho5.block mc HTC.out.lts.2 (by omega)), HapO.out, k5, by omega, ((ho5.cells w3.heap.size (by omega) (by omega)).1 0).trans o0, ((ho5.cells w3.heap.size (by omega) (by omega)).1 1).trans o1, ((ho5.cells (w3.heap.size + 1) (by omega) (by omega)).1 0).trans v0, ((ho5.cells (w3.heap.size + 1) (by omega) (by omega)).1 1).trans v1⟩
            case measure => simp [intOf]; omega
        · have g3 : decide ((k : Int) < (q.length : Int)) = false := by simp; omega
          rcases hapB.2 with ⟨e1, e2⟩ | ⟨e1, e2⟩
          · have HmA := hid (fun W (h : TabAt W w.heap.size pa ma nA A) => by
              have := hmineA W h
              rw [e1] at this
              exact this)
            have HmC := hid (fun W (h : TabAt W w.heap.size pc mc nC C) => by
              have := hmineC W h
              rw [e2] at this
              exact this)
            have hapB1 := hid hapB.1
            clear hmineA hmineC hapB hapO hother HO HapO e1 e2
            go_wp2_with (first
              | (go_at_call 19; refine (HmC.out _ ((HTC.out.keep (ho5.block pc HTC.out.lts.1 (by omega)) (ho5.block mc HTC.out.lts.2 (by omega))).below ((Below.refl _ w5).alloc (Nat.le_refl _) _))).mono ?_; rintro e w6 ⟨rfl, hT6, ho6⟩; unfold sessV begun; obtain ⟨xA, xAf⟩ := ho6.cells w5.heap.size (by simp) (by omega); have z6 : w5.heap.size < w6.heap.size := (by have := ho6.size; simp at this; omega))
              | (go_at_call 19; refine (HmA.out _ HTA.out).mono ?_; rintro e w5 ⟨rfl, hT5, ho5⟩; unfold sessV begun; have z5 := ho5.size; have p5 := (ho5.cells w3.heap.size (by omega) (by omega)).1; have p50 := (p5 0).trans o0; have p51 := (p5 1).trans o1; have zw5 : w3.heap.size < w5.heap.size := (by omega)))
            have k5 : Below w.heap.size w w5 := Hb.out.trans (ho5.below (by omega) (fun k hk => by omega))
            have hT6A := ((hT5.below ((Below.refl _ w5).alloc (Nat.le_refl _) (.cells #[.int .i64 A.next, .string bT, .string bU, .int .i64 (x + z % 150), .int .i64 (x + z % 150)] 25))).keep (ho6.block pa (by simp; omega) (by omega)) (ho6.block ma (by simp; omega) (by omega))).below ((Below.refl _ w6).alloc (Nat.le_refl _) (.cells #[.int .i64 C.next, .string bT, .string bU, .int .i64 (x + z % 150), .int .i64 (x + z % 150)] 25))
            have hT6C := hT6.below ((Below.refl _ w6).alloc (Nat.le_refl _) (.cells #[.int .i64 C.next, .string bT, .string bU, .int .i64 (x + z % 150), .int .i64 (x + z % 150)] 25))
            have k6 : Below w.heap.size w w6 := (k5.alloc (by omega) _).trans (ho6.below (by simp; omega) (fun k hk => by omega))
            have s6 : ∀ b o v, b < w3.heap.size + 2 → b ≠ pa → b ≠ ma → b ≠ pc → b ≠ mc → wr.cell? ⟨b, o, none⟩ = some v → (w6.alloc (.cells #[.int .i64 C.next, .string bT, .string bU, .int .i64 (x + z % 150), .int .i64 (x + z % 150)] 25)).cell? ⟨b, o, none⟩ = some v := fun b o v hb1 hb2 hb3 hb4 hb5 hv => by
              rw [World.cell?_alloc_past _ _ _ (by omega), (ho6.cells b (by simp; omega) (by omega)).1, World.cell?_alloc_past _ _ _ (by omega), (ho5.cells b (by omega) (by omega)).1]
              exact hv
            go_roundw
            case rel => exact ⟨k + 1, x + z % 150, by omega, by omega, by go_num, rfl, by omega, by omega, _, _, nA + 1, nC + 1, by omega, by omega, hT6A, hT6C, hapB1.out, k6.alloc (by omega) _, by simp; omega, s6 _ _ _ (by omega) (by omega) (by omega) (by omega) (by omega) o0, s6 _ _ _ (by omega) (by omega) (by omega) (by omega) (by omega) o1, s6 _ _ _ (by omega) (by omega) (by omega) (by omega) (by omega) v0, s6 _ _ _ (by omega) (by omega) (by omega) (by omega) (by omega) v1⟩
            case measure => simp [intOf]; omega
          · have HmA := hid (fun W (h : TabAt W w.heap.size pa ma nA A) => by
              have := hmineA W h
              rw [e1] at this
              exact this)
            have HmC := hid (fun W (h : TabAt W w.heap.size pc mc nC C) => by
              have := hmineC W h
              rw [e2] at this
              exact this)
            have hapB1 := hid hapB.1
            clear hmineA hmineC hapB hapO hother HO HapO e1 e2
            go_wp2_with (first
              | (go_at_call 19; refine (HmC.out _ ((HTC.out.keep (ho5.block pc HTC.out.lts.1 (by omega)) (ho5.block mc HTC.out.lts.2 (by omega))).below ((Below.refl _ w5).alloc (Nat.le_refl _) _))).mono ?_; rintro e w6 ⟨rfl, hT6, ho6⟩; unfold sessV sess0; obtain ⟨xA, xAf⟩ := ho6.cells w5.heap.size (by simp) (by omega); have z6 : w5.heap.size < w6.heap.size := (by have := ho6.size; simp at this; omega))
              | (go_at_call 19; refine (HmA.out _ HTA.out).mono ?_; rintro e w5 ⟨rfl, hT5, ho5⟩; unfold sessV sess0; have z5 := ho5.size; have p5 := (ho5.cells w3.heap.size (by omega) (by omega)).1; have p50 := (p5 0).trans o0; have p51 := (p5 1).trans o1; have zw5 : w3.heap.size < w5.heap.size := (by omega)))
            have k5 : Below w.heap.size w w5 := Hb.out.trans (ho5.below (by omega) (fun k hk => by omega))
            have hT6A := ((hT5.below ((Below.refl _ w5).alloc (Nat.le_refl _) (.cells #[.int .i64 0, .string ⟨#[]⟩, .string ⟨#[]⟩, .int .i64 0, .int .i64 0] 25))).keep (ho6.block pa (by simp; omega) (by omega)) (ho6.block ma (by simp; omega) (by omega))).below ((Below.refl _ w6).alloc (Nat.le_refl _) (.cells #[.int .i64 0, .string ⟨#[]⟩, .string ⟨#[]⟩, .int .i64 0, .int .i64 0] 25))
            have hT6C := hT6.below ((Below.refl _ w6).alloc (Nat.le_refl _) (.cells #[.int .i64 0, .string ⟨#[]⟩, .string ⟨#[]⟩, .int .i64 0, .int .i64 0] 25))
            have k6 : Below w.heap.size w w6 := (k5.alloc (by omega) _).trans (ho6.below (by simp; omega) (fun k hk => by omega))
            have s6 : ∀ b o v, b < w3.heap.size + 2 → b ≠ pa → b ≠ ma → b ≠ pc → b ≠ mc → wr.cell? ⟨b, o, none⟩ = some v → (w6.alloc (.cells #[.int .i64 0, .string ⟨#[]⟩, .string ⟨#[]⟩, .int .i64 0, .int .i64 0] 25)).cell? ⟨b, o, none⟩ = some v := fun b o v hb1 hb2 hb3 hb4 hb5 hv => by
              rw [World.cell?_alloc_past _ _ _ (by omega), (ho6.cells b (by simp; omega) (by omega)).1, World.cell?_alloc_past _ _ _ (by omega), (ho5.cells b (by omega) (by omega)).1]
              exact hv
            go_roundw
            case rel => exact ⟨k + 1, x + z % 150, by omega, by omega, by go_num, rfl, by omega, by omega, _, _, nA + 1, nC + 1, by omega, by omega, hT6A, hT6C, hapB1.out, k6.alloc (by omega) _, by simp; omega, s6 _ _ _ (by omega) (by omega) (by omega) (by omega) (by omega) o0, s6 _ _ _ (by omega) (by omega) (by omega) (by omega) (by omega) o1, s6 _ _ _ (by omega) (by omega) (by omega) (by omega) (by omega) v0, s6 _ _ _ (by omega) (by omega) (by omega) (by omega) (by omega) v1⟩
            case measure => simp [intOf]; omega
      · have g2 : decide ((k : Int) < 40) = false := by simp; omega
        have HlA := hid (fun W (h : TabAt W w.heap.size pa ma nA A) => tabLive_any h Hap.out.ka (by omega) bT bU x)
        have HlC := hid (fun W (h : TabAt W w.heap.size pc mc nC C) => tabLive_any h Hap.out.kc (by omega) bT bU x)
        obtain ⟨t1, t2, t3⟩ := ap_live Hap.out hx0 (by omega)
        rw [t1, t3] at HlA
        rw [t2] at HlC
        clear t1 t2 t3
        generalize (tLive C bT bU x).length = N at *
        go_wp2_with (first
          | (go_at_call 18; refine (HlC.out _ (HTC.out.below hb5)).mono ?_; rintro e w6 ⟨v2, rfl, hrow2, hb6⟩; obtain ⟨a2, c2, rfl⟩ := slice_of_own hrow2)
          | (go_at_call 18; refine (HlA.out _ HTA.out).mono ?_; rintro e w5 ⟨v1', rfl, hrow1, hb5⟩; obtain ⟨a1, c1, rfl⟩ := slice_of_own hrow1; have p50 := ((bcell hb5).1 w3.heap.size 0 (by omega)).trans o0; have p51 := ((bcell hb5).1 w3.heap.size 1 (by omega)).trans o1))
        go_ret
        exact ⟨rfl, Below.on' (Below.on' Hb.out hb5) hb6⟩
    · have g1 : decide ((k : Int) < (l.length : Int)) = false := by simp; omega
      have HlA := hid (fun W (h : TabAt W w.heap.size pa ma nA A) => tabLive_any h Hap.out.ka (by omega) bT bU x)
      have HlC := hid (fun W (h : TabAt W w.heap.size pc mc nC C) => tabLive_any h Hap.out.kc (by omega) bT bU x)
      obtain ⟨t1, t2, t3⟩ := ap_live Hap.out hx0 (by omega)
      rw [t1, t3] at HlA
      rw [t2] at HlC
      clear t1 t2 t3
      generalize (tLive C bT bU x).length = N at *
      go_wp2_with (first
        | (go_at_call 18; refine (HlC.out _ (HTC.out.below hb5)).mono ?_; rintro e w6 ⟨v2, rfl, hrow2, hb6⟩; obtain ⟨a2, c2, rfl⟩ := slice_of_own hrow2)
        | (go_at_call 18; refine (HlA.out _ HTA.out).mono ?_; rintro e w5 ⟨v1', rfl, hrow1, hb5⟩; obtain ⟨a1, c1, rfl⟩ := slice_of_own hrow1; have p50 := ((bcell hb5).1 w3.heap.size 0 (by omega)).trans o0; have p51 := ((bcell hb5).1 w3.heap.size 1 (by omega)).trans o1))
      go_ret
      exact ⟨rfl, Below.on' (Below.on' Hb.out hb5) hb6⟩
end Go.Proofs.Ytedoaahimpnmnaa
