/- A write to a log's disk; writeHead; write of package wal, by contracts. -/
import Derived.Test.YtcaifnenejjfaaaWRefuse2
namespace Go.Proofs.Ytcaifnenejjfaaa
open Go.RowKit Go.Maps
set_option linter.unusedVariables false
set_option maxRecDepth 20000

/-- what becomes of the changes' row -/
def NewV (w : World) (v v' : Value) : Prop := ∀ k, v'.ownBlock = some k → v.ownBlock = some k ∨ w.heap.size ≤ k
theorem NewV.refl (w : World) (v : Value) : NewV w v v := fun k h => .inl h
theorem NewV.trans {w w' : World} {v v' v'' : Value} (h : NewV w v v') (h' : NewV w' v' v'') (hs : w.heap.size ≤ w'.heap.size) : NewV w v v'' := fun k hk => by
  rcases h' k hk with h1 | h1
  · exact h k h1
  · exact .inr (by omega)
theorem NewV.block {w : World} {v v' : Value} {l d g mb k : Nat} (h : NewV w v v') (hk : logBlock l d g mb v' k) : logBlock l d g mb v k ∨ w.heap.size ≤ k := by
  rcases hk with e | e | e | e | e
  · exact .inl (.inl e)
  · exact .inl (.inr (.inl e))
  · exact .inl (.inr (.inr (.inl e)))
  · exact .inl (.inr (.inr (.inr (.inl e))))
  · rcases h k e with h1 | h1
    · exact .inl (.inr (.inr (.inr (.inr h1))))
    · exact .inr h1

theorem logWrite {w : World} {B l d g cap mb n : Nat} {v : Value} {S G U : Nat} {pl : Nat → Option Nat} {fs : List (List UInt8)} {ls : List (Nat × List UInt8)} (h : LogMem w B l d g cap mb n v S G U pl (psOf fs ls) (chOf fs ls)) (m : Nat) (hm : m < fs.length) (x : List UInt8) (hx : x.length = 256) (b o cx : Nat) (hB : Bytes w (some ⟨b, o, none⟩) x) (hap : ¬ logBlock l d g mb v b) (hls : ls.length ≤ 1000000) (hbase : B ≤ w.heap.size) (mI : Int) (hmI : mI = (m : Int)) :
    Calls Try.prog 36 #[.pointer (some ⟨d, 0, none⟩), .int .i64 mI, .slice (some ⟨b, o, none⟩) 256 cx] w fun e w' => e = .returned (.int .i64 0) ∧ ∃ v', LogMem w' B l d g cap mb n v' S G U pl (psOf fs (ls ++ [(m, x)])) (chOf fs (ls ++ [(m, x)])) ∧ NewV w v v' ∧ Out (logBlock l d g mb v) w w' := by
  subst hmI
  refine (write_ok h.disk m (by rw [psOf_length]; exact hm) x hx b o cx hB ⟨fun e => hap (.inr (.inl e)), fun e => hap (.inr (.inr (.inl e))), fun e => hap (.inr (.inr (.inr (.inr e.symm))))⟩ (by rw [chOf_length]; exact hls) hbase).mono ?_
  rintro e w' ⟨rfl, v', hD, hv, ho⟩
  have hml := h.mne
  have hlt := fun k hk => (h.lts k hk).2
  refine ⟨rfl, v', ⟨?_, ?_, ?_, h.bl, h.bm, h.ld, h.lg, ?_⟩, ?_, ⟨ho.os, ho.tape, ho.output, ho.size, fun k hk hp => ho.block k hk (fun e => hp (.inr (.inl e))) (fun e => hp (.inr (.inr (.inl e)))) (fun e => hp (.inr (.inr (.inr (.inr e.symm)))))⟩⟩
  · rw [ho.block l (hlt l (.inl rfl)) h.ld h.lg (fun e => h.lv e.symm)]
    exact h.obj
  · rw [psOf_snoc, chOf_snoc]
    have e : (psOf fs ls).getD m [] = (psOf fs ls)[m]'(by rw [psOf_length]; exact hm) := by
      unfold List.getD
      rw [List.getElem?_eq_getElem (by rw [psOf_length]; exact hm)]
      rfl
    rw [e]
    exact hD
  · exact h.map.keep (ho.block mb h.map.lt hml.2.1 hml.2.2.1 (fun e => hml.2.2.2 e.symm))
  · rcases hv with hv | hv
    · rw [hv]; exact h.lv
    · rw [hv]
      intro e
      cases e
      have := hlt _ (.inl rfl)
      omega
  · intro k hk
    rcases hv with hv | hv
    · exact .inl (by rw [← hv]; exact hk)
    · rw [hv] at hk
      cases hk
      exact .inr (by omega)

set_option maxHeartbeats 800000 in
theorem writeHead_any {w : World} {B l d g cap mb n : Nat} {v : Value} {S G U : Nat} {pl : Nat → Option Nat} {fs : List (List UInt8)} {ls : List (Nat × List UInt8)} (h : LogMem w B l d g cap mb n v S G U pl (psOf fs ls) (chOf fs ls)) (hG : G < 9223372036854775808) (hU : U < 65536) (hfs : 0 < fs.length) (hls : ls.length ≤ 1000000) (hbase : B ≤ w.heap.size) :
    Calls Try.prog 38 #[.pointer (some ⟨l, 0, none⟩)] w fun e w' => e = .returned (.tuple #[]) ∧ ∃ v', LogMem w' B l d g cap mb n v' S G U pl (psOf fs (ls ++ [(0, headB G U)])) (chOf fs (ls ++ [(0, headB G U)])) ∧ NewV w v v' ∧ Out (logBlock l d g mb v) w w' := by
  have c0 := h.c0
  have c1 := h.c1
  have c2 := h.c2
  have H := hid h
  clear h
  go_enter Try.func38, Try.ntmps38
  go_wp2
  go_region_held3 (fun w9 => w9.cell? ⟨l, 0, none⟩ = some (.int .i64 (G : Int)) ∧ w9.cell? ⟨l, 1, none⟩ = some (.int .i64 (U : Int)) ∧ w9.cell? ⟨l, 2, none⟩ = some (.pointer (some ⟨d, 0, none⟩))) (first | exact ⟨c0, c1, c2⟩ | exact q2.out | exact q.out)
    (first
      | ((go_at_call 60; refine (headBytes_any G U _ hG hU).mono ?_; rintro e w1 ⟨g1, c1', rfl, ho1, hb1'⟩; have hb1 := undrew1 hb1'; have Hb1 := hid hb1; have H1 := hid (H.out.below hb1); have q := hid (And.intro H1.out.c0 (And.intro H1.out.c1 H1.out.c2)); have Hw := hid (logWrite H1.out 0 hfs (headB G U) (headB_length G U) g1 0 c1' (bytes_of_row ho1 (headB_length G U)) (fun hh => by have h1 := (H.out.lts _ hh).2; have h2 := (ho1.lt g1 rfl).1; have h3 : w.drew.heap.size = w.heap.size := rfl; omega) hls (Nat.le_trans hbase hb1.size) 0 rfl); clear hb1 hb1' ho1))
      | ((go_at_call 36; refine Hw.out.mono ?_; rintro e w2 ⟨rfl, v', hM2, hn2, ho2⟩; have H2 := hid hM2; have q2 := hid (And.intro hM2.c0 (And.intro hM2.c1 hM2.c2)); have Hn2 := hid hn2; have Ho2 := hid ho2; clear hM2 hn2 ho2)))
  clear c0 c1 c2 q q2 Hw
  go_wp2
  go_end0
  refine ⟨rfl, v', H2.out, fun k hk => (Hn2.out k hk).imp id (fun h => Nat.le_trans Hb1.out.size h), (Out.of_below Hb1.out).trans Ho2.out (fun _ _ e => e)⟩
end Go.Proofs.Ytcaifnenejjfaaa
