/- all of law 3: all pages of a log, by a contract. -/
import Derived.Test.YthdcjepkehifoaaGreatWOne
import Derived.Maps.AppendAt
import Derived.Deep.AppendLies
namespace Go.Proofs.YthdcjepkehifoaaGreat
open Go.RowKit Go.Maps
set_option linter.unusedVariables false
set_option maxRecDepth 20000
/-- rows of pages of their own -/
def WImg (w : World) (B : Nat) (v : Value) (ps : List (List UInt8)) : Prop := ∃ vs, ImgAt w B v vs ps ∧ ∀ u ∈ vs, ∀ j, u.ownBlock = some j → some j ≠ v.ownBlock
set_option maxHeartbeats 1600000 in
/-- all pages of a log, whatever tells its pages -/
theorem wall_gen {w : World} (l : Nat) (ps : List (List UInt8)) (hP' : ps.length ≤ 99) (hf : ∀ k (hk : k < ps.length), ps[k].length = 256)
    (hpg : ∀ w', Below w.heap.size w w' → Calls Tryz.prog 17 #[.pointer (some ⟨l, 0, none⟩)] w' fun e w'' => e = .returned (.int .i64 (ps.length : Int)) ∧ Below w'.heap.size w' w'')
    (hrd : ∀ w', Below w.heap.size w w' → ∀ k (hk : k < ps.length), Calls Tryz.prog 28 #[.pointer (some ⟨l, 0, none⟩), .int .i64 (k : Int)] w' fun e w'' => ∃ g c, e = .returned (.tuple #[.slice (some ⟨g, 0, none⟩) 256 c, .int .i64 0]) ∧ w''.ownsRow w'.heap.size 5 1 (.slice (some ⟨g, 0, none⟩) 256 c) 256 (cellsOf ps[k]) ∧ 256 ≤ c ∧ Below w'.heap.size w' w'') :
    Calls Tryz.prog 38 #[.pointer (some ⟨l, 0, none⟩)] w fun e w' => ∃ v, e = .returned v ∧ WImg w' w.heap.size v ps ∧ Below w.heap.size w w' := by
  obtain ⟨i0, hi0, hz0, hz1, hz2⟩ := info_parts Tryz.info36
  have Hf := hid hf
  have HPg := hid hpg
  have HRd := hid hrd
  clear hf hpg hrd
  go_enter Tryz.func38, Tryz.ntmps38
  go_wp2
  go_loopw [4, 3] (fun i o wr => ∃ (k : Nat) (vs' : List Value), k ≤ ps.length ∧ i = .int .i64 (k : Int) ∧ ImgAt wr w.heap.size o vs' (ps.take k) ∧ (∀ v ∈ vs', ∀ j, v.ownBlock = some j → some j ≠ o.ownBlock) ∧ Below w.heap.size w wr) (fun i _ _ => ps.length - (intOf i).toNat)
  case atStart => exact ⟨0, [], by omega, rfl, ⟨World.ownsRow_nil _ _ _ _, rfl, fun i hi => by simp at hi⟩, (fun v hv => by cases hv), Below.refl _ _⟩
  case round =>
    obtain ⟨k, vs', hk, rfl, hI, hap, hB⟩ := hrel
    have HI := hid hI
    have Hap := hid hap
    have HB := hid hB
    have htl : (ps.take k).length = k := by rw [List.length_take]; omega
    have Htl := hid htl
    have HPg1 := hid (HPg.out wr hB)
    clear hI hap hB htl
    go_wp2_with fail
    refine HPg1.out.mono ?_
    rintro _ w3 ⟨rfl, b3⟩
    have HB3 := hid (HB.out.trans (b3.mono HB.out.size))
    have HI3 := hid (HI.out.below b3)
    have hrow := HI3.out.row
    rw [Htl.out] at hrow
    have Hrow := hid hrow
    clear b3 HPg1 hrow
    by_cases hlt : k < ps.length
    · have Htk := hid (List.take_succ_eq_append_getElem hlt)
      have Hc := hid (HRd.out w3 HB3.out k hlt)
      have H256 := hid (Hf.out k hlt)
      have f1 : (k : Int) < (ps.length : Int) := by omega
      have f2 : (k : Int) < 100 := by omega
      generalize ps[k] = x at *
      go_wp2_with fail
      refine Hc.out.mono ?_
      rintro _ w4 ⟨bu, cu, rfl, hu, _, hb4⟩
      have Hu := hid hu
      have Hb4 := hid hb4
      have hs4 := hb4.size
      clear hu hb4 Hc
      go_wp2_with (at_builtin; refine wpList_append_lies _ rfl _ _ 46 rfl w.heap.size 36 i0 _ 1 24 Tryz.underlying46 hi0 hz0 hz1 hz2 rfl (by omega) u3 k vs' rfl ((own_below Hrow.out Hb4.out).alloc _) ⟨w4.heap.size, 0, none⟩ 1 1 [.slice (some ⟨bu, 0, none⟩) 256 cu] rfl rfl (World.news_of_block (cs := #[.slice (some ⟨bu, 0, none⟩) 256 cu]) (t := 36) (fr := (0, 0)) (heap_alloc_new w4 _)) ?q1 ?q2 ?q3 ?q4 ?q5 (w4.heap.size + 1) ?q6 ?_)
      case q1 => intro q hq; rw [List.mem_singleton.1 hq]; rfl
      case q2 => omega
      case q3 => unfold maxLen; omega
      case q4 => omega
      case q5 => have := HB3.out.size; simp; omega
      case q6 => simp
      intro gg cap1 w5 hown5 hgrow5 hat5 hlt5
      have hu' : w4.ownsRow w3.heap.size 5 1 (.slice (some ⟨bu, 0, none⟩) 256 cu) x.length (cellsOf x) := by rw [H256.out]; exact Hu.out
      have hE := hid (img_snoc (w3 := w5) (gg := gg) (cap1 := cap1) HI3.out Hap.out hu' Hb4.out HB3.out.size (by rw [Htl.out]; exact hown5) (fun j hj hne => (hgrow5.block j (by simp; omega) hne).trans (Below.heap_alloc _ _ _ hj)) (by rcases hat5 with h | h; exact .inl h; exact .inr (by omega)))
      rw [Htl.out, ← Htk.out] at hE
      have HB5 := hid (((HB3.out.trans (Hb4.out.mono HB3.out.size)).alloc (by have := HB3.out.size; omega) _).grown hgrow5 (by have := HB3.out.size; simp; omega) (fun j e => (Hrow.out.lt j e).1))
      clear hown5 hgrow5 hat5 hlt5 hu'
      go_wp2
      go_roundw
      case rel => exact ⟨k + 1, _, by omega, by go_num, hE.out.1, hE.out.2, HB5.out⟩
      case measure => simp [intOf]; omega
    · have hkn : k = ps.length := by omega
      subst hkn
      have f1 : ¬ (ps.length : Int) < (ps.length : Int) := by omega
      have hI := HI3.out
      rw [List.take_length] at hI
      have HI2 := hid hI
      clear hI
      go_wp2
      go_ret
      exact ⟨_, rfl, ⟨_, HI2.out, Hap.out⟩, HB3.out⟩
/-- all pages of a log that was opened -/
theorem wall_log {w : World} {B l d g cap mb n : Nat} {v : Value} {S G U P : Nat} {gs : List (List Nat)} {ps : List (List UInt8)} {ch : List (Nat × List UInt8)} (h : LogMem w B l d g cap mb n v S G U (plOf gs) ps ch) (hi : LogInv ps S G gs P) (hP : P ≤ 99) :
    Calls Tryz.prog 38 #[.pointer (some ⟨l, 0, none⟩)] w fun e w' => ∃ v, e = .returned v ∧ WImg w' w.heap.size v ((List.range P).map (pageNow ps S gs)) ∧ Below w.heap.size w w' := by
  have hlen := hi.len
  have hmost := hi.most
  have hpl : ((List.range P).map (pageNow ps S gs)).length = P := by simp
  have hpk : ∀ k (hk : k < ((List.range P).map (pageNow ps S gs)).length), ((List.range P).map (pageNow ps S gs))[k] = pageNow ps S gs k := fun k hk => by simp
  refine wall_gen l ((List.range P).map (pageNow ps S gs)) (by omega) (fun k hk => ?_) (fun w' hb => ?_) (fun w' hb k hk => ?_)
  · rw [hpk]; exact pageNow_length hi k (by omega)
  · rw [hpl]; exact logPages_any (h.below hb) P hlen hmost
  · rw [hpk]
    refine logRead_ok (h.below hb) P hlen hmost k (by omega) (pageNow ps S gs k) ?_
    have hl := pageNow_length hi k (by omega)
    show ps[placeOf S gs k]? = some (pageNow ps S gs k)
    unfold pageNow at hl ⊢
    cases e : ps[placeOf S gs k]? with
    | none => rw [List.getD_eq_getElem?_getD, e] at hl; simp at hl
    | some y => rw [List.getD_eq_getElem?_getD, e]; rfl
end Go.Proofs.YthdcjepkehifoaaGreat
