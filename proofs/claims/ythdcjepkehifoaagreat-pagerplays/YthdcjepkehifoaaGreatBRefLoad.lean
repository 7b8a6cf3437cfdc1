/- YthdcjepkehifoaaGreatBLoad + YthdcjepkehifoaaGreatBRefLoad -/
import Derived.Test.YthdcjepkehifoaaGreatBLift
/- Load of package block, and of the reference, by contracts. -/
namespace Go.Proofs.YthdcjepkehifoaaGreat
open Go.RowKit
set_option linter.unusedVariables false
set_option maxRecDepth 20000

set_option maxRecDepth 20000 in
/-- a page copied into a disk without changes -/
theorem copy_end {w : World} {B d g cap : Nat} {ps : List (List UInt8)} (H : DiskAt w B d g cap (.slice none 0 0) ps []) (n : Nat) (hn : n < ps.length) (x : List UInt8) (hx : x.length = 256) (cur : Array Value) (hcur : w.heap[g]? = some (.cells cur 120 (0, 0))) :
    DiskAt (w.setRow g (cur.toList.take (n * 256) ++ (cellsOf x ++ cur.toList.drop (n * 256 + 256))).toArray) B d g cap (.slice none 0 0) (ps.set n x) [] ∧ Below B w (w.setRow g (cur.toList.take (n * 256) ++ (cellsOf x ++ cur.toList.drop (n * 256 + 256))).toArray) := by
  obtain ⟨hcsz, hcap, hml, hcs, htake, hgB⟩ : ps.length * 256 ≤ cur.size ∧ ps.length ≤ cap ∧ cap ≤ maxLen ∧ cur.size = cap * 256 ∧ cur.toList.take (ps.length * 256) = pcells ps ∧ B ≤ g := by
    rcases H.pages.2 with ⟨h', _⟩ | ⟨g', cap', cur', hv, hb', hh, h1', h2', h3', h4'⟩
    · cases h'
    · cases hv
      rw [hcur] at hh
      cases hh
      exact ⟨by rw [h3']; exact Nat.mul_le_mul_right _ h1', h1', h2', h3', h4', hb'⟩
  have hl : (cellsOf x).length = 256 := by rw [cellsOf_length, hx]
  have hfit : n * 256 + 256 ≤ cur.size := by
    have : (n + 1) * 256 ≤ ps.length * 256 := Nat.mul_le_mul_right _ (by omega)
    omega
  have g3 := setRow_heap w g cur (cur.toList.take (n * 256) ++ (cellsOf x ++ cur.toList.drop (n * 256 + 256))).toArray _ _ hcur
  have o3 : ∀ k, k ≠ g → (w.setRow g (cur.toList.take (n * 256) ++ (cellsOf x ++ cur.toList.drop (n * 256 + 256))).toArray).heap[k]? = w.heap[k]? := fun k hk => setRow_other w g k _ hk
  refine ⟨⟨?_, ⟨?_, ?_⟩, ?_, World.ownsRow_nil _ _ _ _, fun c hc => (by cases hc), H.bd, H.dg, (fun h => by cases h), (fun h => by cases h), fun _ => rfl⟩, below_setRow (Below.refl _ _) hgB _⟩
  · rw [List.length_set, o3 d H.dg]; exact H.obj
  · rw [List.length_set, pcells_length _ (fun p hp => ?_), List.length_set]
    rcases List.mem_or_eq_of_mem_set hp with h | h
    · exact H.full p h
    · rw [h, hx]
  · rw [List.length_set]
    refine .inr ⟨g, cap, _, rfl, hgB, g3, hcap, hml, ?_, ?_⟩
    · simp [hl, hcs]
      omega
    · exact pcells_copied ps H.full n hn x hx cur.toList htake (by simpa using hcsz)
  · intro p hp
    rcases List.mem_or_eq_of_mem_set hp with h | h
    · exact H.full p h
    · rw [h, hx]

/-- the pages when so many are loaded -/
def loaded (ps : List (List UInt8)) (k : Nat) : List (List UInt8) := ps.take k ++ List.replicate (ps.length - k) zpage
theorem loaded_length (ps : List (List UInt8)) (k : Nat) (h : k ≤ ps.length) : (loaded ps k).length = ps.length := by unfold loaded; rw [List.length_append, List.length_take, List.length_replicate]; omega
theorem loaded_set (ps : List (List UInt8)) (k : Nat) (h : k < ps.length) : (loaded ps k).set k ps[k] = loaded ps (k + 1) := by
  unfold loaded
  rw [List.set_append_right _ _ (by rw [List.length_take]; omega), List.length_take, Nat.min_eq_left (by omega), Nat.sub_self, show ps.length - k = (ps.length - (k + 1)) + 1 by omega, List.replicate_succ, List.set_cons_zero, List.take_succ_eq_append_getElem h, List.append_assoc]
  rfl

set_option maxHeartbeats 800000 in
set_option maxRecDepth 20000 in
theorem load_none (w : World) : Calls Tryz.prog 42 #[.slice none 0 0] w fun e w' => e = .returned (.tuple #[.pointer none, .int .i64 2]) ∧ w' = w := by
  go_enter Tryz.func42, Tryz.ntmps42
  go_wp2_with (fail)
  refine (new_bad 0 w (by omega)).mono ?_
  rintro e w1 ⟨rfl, rfl⟩
  go_wp2
  go_ret2
  exact ⟨rfl, rfl⟩

/-- what Load gives -/
def LoadPost (ps : List (List UInt8)) (w : World) (e : Ending) (w' : World) : Prop :=
  (((∃ p ∈ ps, p.length ≠ 256) ∧ e = .returned (.tuple #[.pointer none, .int .i64 3])) ∨ ((∀ p ∈ ps, p.length = 256) ∧ ∃ d g cap, e = .returned (.tuple #[.pointer (some ⟨d, 0, none⟩), .int .i64 0]) ∧ DiskAt w' w.heap.size d g cap (.slice none 0 0) ps [])) ∧ Below w.heap.size w w'

set_option maxHeartbeats 1600000 in
set_option maxRecDepth 20000 in
theorem load_ok {w : World} {B b c : Nat} {vs : List Value} {ps : List (List UInt8)} (h : ImgAt w B (.slice (some ⟨b, 0, none⟩) ps.length c) vs ps) (h1 : 1 ≤ ps.length) (h2 : ps.length ≤ 1024) (hsm : ∀ p ∈ ps, p.length ≤ 300) :
    Calls Tryz.prog 42 #[.slice (some ⟨b, 0, none⟩) ps.length c] w (LoadPost ps w) := by
  have H := hid h
  have Hsm := hid hsm
  clear h hsm
  go_enter Tryz.func42, Tryz.ntmps42
  go_wp2_with (fail)
  refine (new_ok ps.length w h1 h2).mono ?_
  rintro e w1 ⟨d, g, cap, rfl, hD, hB1⟩
  have HD : Hid (DiskAt w1 w.heap.size d g cap (.slice none 0 0) (loaded ps 0) []) := by
    have : loaded ps 0 = List.replicate ps.length zpage := by unfold loaded; simp
    rw [this]; exact hD
  have HB1 := hid hB1
  clear hD hB1
  go_wp2
  go_loopw [19] (fun i wr => ∃ k : Nat, k ≤ ps.length ∧ i = .int .i64 (k : Int) ∧ DiskAt wr w.heap.size d g cap (.slice none 0 0) (loaded ps k) [] ∧ (∀ p ∈ ps.take k, p.length = 256) ∧ Below w.heap.size w wr) (fun i _ => ps.length - (intOf i).toNat)
  case atStart => exact ⟨0, by omega, rfl, HD.out, (fun p hp => by simp at hp), HB1.out⟩
  case round =>
    obtain ⟨k, hk, rfl, hD, hfk, hB⟩ := hrel
    have HD2 := hid hD
    have Hfk := hid hfk
    have HB := hid hB
    clear hD hfk hB HD HB1
    by_cases hlt : k < ps.length
    · obtain ⟨a1, e1, k1, hb1, _⟩ := (H.out.below HB.out).cell rfl k hlt
      have hs := Hsm.out _ (List.getElem_mem hlt)
      have f0 : (0 : Int) ≤ (k : Int) := by omega
      have f1 : (k : Int) < (ps.length : Int) := by omega
      have Hmem := hid (List.getElem_mem hlt)
      have Htk := hid (List.take_succ_eq_append_getElem hlt)
      have Hset := hid (loaded_set ps k hlt)
      by_cases h256 : (ps[k]).length = 256
      · obtain ⟨bx, ox, rfl⟩ : ∃ bx ox, a1 = some ⟨bx, ox, none⟩ := by
          obtain ⟨b', o', e, _⟩ := hb1 0 (by omega)
          exact ⟨b', o', e⟩
        have c0 := HD2.out.c0
        rw [loaded_length ps k hk] at c0
        obtain ⟨cur, hcur⟩ : ∃ cur, wr.heap[g]? = some (.cells cur 120 (0, 0)) := by
          rcases HD2.out.pages.2 with ⟨h', _⟩ | ⟨g', cap', cur', hv, hb', hh, _⟩
          · cases h'
          · cases hv; exact ⟨cur', hh⟩
        have hcsz : (k + 1) * 256 ≤ cur.size := by
          rcases HD2.out.pages.2 with ⟨h', _⟩ | ⟨g', cap', cur', hv, hb', hh, h1', h2', h3', _⟩
          · cases h'
          · cases hv
            rw [hcur] at hh
            cases hh
            rw [loaded_length ps k hk] at h1'
            rw [h3']
            exact Nat.mul_le_mul_right _ (by omega)
        have HE := hid (copy_end HD2.out k (by rw [loaded_length ps k hk]; exact hlt) ps[k] h256 cur hcur)
        rw [Hset.out] at HE
        have Hbx : Hid (∀ j u, (cellsOf ps[k])[j]? = some u → wr.cell? ((⟨bx, ox, none⟩ : Addr).add j) = some u) := fun j u hj => by
          have hj' : j < (ps[k]).length := by have := (List.getElem?_eq_some_iff.1 hj).1; simpa [cellsOf_length] using this
          obtain ⟨b', o', e', hc⟩ := hb1 j hj'
          cases e'
          rw [addr_add, ← hj, cellsOf_get _ j hj']
          exact hc
        rw [h256] at k1
        have Hl := hid (show (cellsOf ps[k]).length = 256 by rw [cellsOf_length]; exact h256)
        have Hone := hid (cellsOf_one ps[k])
        have Hx256 := hid h256
        generalize ps[k] = x at *
        clear hb1 h256 hs Hset
        have Hcur := hid hcur
        have Hcsz := hid hcsz
        clear hcur hcsz
        go_wp2_with (fail)
        rw [run_copy_row (P := Tryz.prog) wr 36 36 3 5 g (k * 256) 256 256 ⟨bx, ox, none⟩ 256 e1 cur 120 (cellsOf x) Tryz.underlying36 (by kernel_rfl) Hcur.out (by rw [Hl.out]; rfl) Hbx.out (by rw [Hl.out]; have := Hcsz.out; omega) Hone.out]
        simp only [Result.andThen]
        rw [Oper.upon_value]
        obtain ⟨W2, hW2⟩ : ∃ W2, W2 = wr.setRow g (cur.toList.take (k * 256) ++ (cellsOf x ++ cur.toList.drop (k * 256 + (cellsOf x).length))).toArray := ⟨_, rfl⟩
        rw [List.append_assoc, ← hW2]
        rw [Hl.out] at hW2
        rw [← hW2] at HE
        clear hW2 k1 c0
        go_wp2
        go_roundw
        case rel => exact ⟨k + 1, by omega, by go_num, HE.out.1, (fun p hp => by
          rw [Htk.out] at hp
          rcases List.mem_append.1 hp with h | h
          · exact Hfk.out p h
          · rw [List.mem_singleton.1 h]; exact Hx256.out), HB.out.trans HE.out.2⟩
        case measure => simp [intOf]; omega
      · have g1 : (((ps[k]).length : Int) != 256) = true := by rw [bne_iff_ne]; omega
        have Hbad : Hid (∃ p ∈ ps, p.length ≠ 256) := ⟨_, Hmem.out, h256⟩
        generalize (ps[k]).length = lk at *
        clear hb1 h256
        go_wp2
        go_ret2
        exact ⟨.inl ⟨Hbad.out, rfl⟩, HB.out⟩
    · have hkn : k = ps.length := by omega
      subst hkn
      have f1 : ¬ (ps.length : Int) < (ps.length : Int) := by omega
      have hD := HD2.out
      have hl : loaded ps ps.length = ps := by unfold loaded; simp
      rw [hl] at hD
      have hfk := Hfk.out
      rw [List.take_length] at hfk
      have HD3 := hid hD
      have Hf3 := hid hfk
      clear hD hl hfk
      go_wp2
      go_ret2
      exact ⟨.inr ⟨Hf3.out, _, _, _, rfl, HD3.out⟩, HB.out⟩
end Go.Proofs.YthdcjepkehifoaaGreat

/- Load of the reference, by a contract. -/
namespace Go.Proofs.YthdcjepkehifoaaGreat
open Go.RowKit
set_option linter.unusedVariables false
set_option maxRecDepth 20000

set_option maxHeartbeats 800000 in
set_option maxRecDepth 20000 in
theorem refLoad_none (w : World) : Calls Tryz.prog 43 #[.slice none 0 0] w fun e w' => e = .returned (.tuple #[.pointer none, .int .i64 2]) ∧ w' = w := by
  go_enter Tryz.func43, Tryz.ntmps43
  go_wp2
  go_ret2
  exact ⟨rfl, rfl⟩

/-- what the reference's Load gives -/
def RefLoadPost (ps : List (List UInt8)) (w : World) (e : Ending) (w' : World) : Prop :=
  (((∃ p ∈ ps, p.length ≠ 256) ∧ e = .returned (.tuple #[.pointer none, .int .i64 3])) ∨ ((∀ p ∈ ps, p.length = 256) ∧ ∃ r F vs, e = .returned (.tuple #[.pointer (some ⟨r, 0, none⟩), .int .i64 0]) ∧ RefAt w' w.heap.size r F (.slice none 0 0) vs [] ps [])) ∧ Below w.heap.size w w'

set_option maxHeartbeats 1600000 in
set_option maxRecDepth 20000 in
theorem refLoad_ok {w : World} {B b c : Nat} {vs : List Value} {ps : List (List UInt8)} (h : ImgAt w B (.slice (some ⟨b, 0, none⟩) ps.length c) vs ps) (h1 : 1 ≤ ps.length) (h2 : ps.length ≤ 1024) :
    Calls Tryz.prog 43 #[.slice (some ⟨b, 0, none⟩) ps.length c] w (RefLoadPost ps w) := by
  have H := hid h
  clear h
  have g1 : ¬ ps.length < 1 := by omega
  have g2 : ¬ 1024 < ps.length := by omega
  have g3 : (1 : Int) ≤ (ps.length : Int) := by omega
  have g4 : (ps.length : Int) ≤ 1024 := by omega
  go_enter Tryz.func43, Tryz.ntmps43
  go_wp2
  go_loopw [4] (fun i wr => ∃ k : Nat, k ≤ ps.length ∧ i = .int .i64 (k : Int) ∧ (∀ p ∈ ps.take k, p.length = 256) ∧ wr = w) (fun i _ => ps.length - (intOf i).toNat)
  case atStart => exact ⟨0, by omega, rfl, (fun p hp => by simp at hp), rfl⟩
  case round =>
    obtain ⟨k, hk, rfl, hfk, rfl⟩ := hrel
    have Hfk := hid hfk
    clear hfk
    by_cases hlt : k < ps.length
    · obtain ⟨a1, e1, k1, hb1, _⟩ := H.out.cell rfl k hlt
      have f0 : (0 : Int) ≤ (k : Int) := by omega
      have f1 : (k : Int) < (ps.length : Int) := by omega
      have Hmem := hid (List.getElem_mem hlt)
      have Htk := hid (List.take_succ_eq_append_getElem hlt)
      by_cases h256 : (ps[k]).length = 256
      · rw [h256] at k1
        have Hx := hid h256
        generalize ps[k] = x at *
        clear hb1 h256
        go_wp2
        go_roundw
        case rel => exact ⟨k + 1, by omega, by go_num, (fun p hp => by
          rw [Htk.out] at hp
          rcases List.mem_append.1 hp with h | h
          · exact Hfk.out p h
          · rw [List.mem_singleton.1 h]; exact Hx.out), by trivial⟩
        case measure => simp [intOf]; omega
      · have g5 : (((ps[k]).length : Int) != 256) = true := by rw [bne_iff_ne]; omega
        have Hbad : Hid (∃ p ∈ ps, p.length ≠ 256) := ⟨_, Hmem.out, h256⟩
        generalize (ps[k]).length = lk at *
        clear hb1 h256
        go_wp2
        go_ret2
        exact ⟨.inl ⟨Hbad.out, rfl⟩, Below.refl _ _⟩
    · have hkn : k = ps.length := by omega
      subst hkn
      have f1 : ¬ (ps.length : Int) < (ps.length : Int) := by omega
      have hfk := Hfk.out
      rw [List.take_length] at hfk
      have Hf := hid hfk
      have Hc := hid (copyAll_ok H.out hfk h2)
      clear hfk
      go_wp2_with (fail)
      refine Hc.out.mono ?_
      rintro e w1 ⟨V', vs', rfl, hI, _, hB⟩
      obtain ⟨b2, c2, rfl, _, _⟩ := hI.row.form (by omega)
      have HI := hid hI
      have HB := hid hB
      clear hI hB Hc
      go_wp2
      go_ret2
      have hR : RefAt (w1.alloc (.cells #[.slice (some ⟨b2, 0, none⟩) ps.length c2, .slice none 0 0] 125)) wr.heap.size w1.heap.size (.slice (some ⟨b2, 0, none⟩) ps.length c2) (.slice none 0 0) vs' [] ps [] := by
        have hlt : ∀ q, refBlock (.slice (some ⟨b2, 0, none⟩) ps.length c2) (.slice none 0 0) vs' [] q → q < w1.heap.size := by
          rintro q (e | e | ⟨v, hv, e⟩ | ⟨u, hu, e⟩)
          · exact (HI.out.row.lt q e).2
          · cases e
          · obtain ⟨i, hi, rfl⟩ := List.getElem_of_mem hv
            exact ((HI.out.rows i (by rw [← HI.out.vlen]; exact hi) hi).lt q e).2
          · cases hu
        refine ⟨heap_alloc_new _ _, HI.out.row.alloc _, HI.out.vlen, fun i hi hi' => (HI.out.rows i hi hi').alloc _, World.ownsRow_nil _ _ _ _, rfl, (fun i hi => by simp at hi), fun _ => rfl, HB.out.size, fun q hq => by have := hlt q hq; omega⟩
      exact ⟨.inr ⟨Hf.out, _, _, _, rfl, hR⟩, HB.out.alloc HB.out.size _⟩
end Go.Proofs.YthdcjepkehifoaaGreat
