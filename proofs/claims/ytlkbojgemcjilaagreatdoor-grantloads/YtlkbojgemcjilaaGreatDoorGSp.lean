/- strings.Split at a slash. -/
import Derived.Test.YtlkbojgemcjilaaGreatDoorGLM
import Derived.Test.YtlkbojgemcjilaaGreatDoorGJoin
import Derived.Lib.Bytealg
namespace Go.Proofs.YtlkbojgemcjilaaGreatDoor.Xr
open Go.RowKit Go.Maps
set_option linter.unusedVariables false
set_option maxRecDepth 20000
theorem index_find (l : List UInt8) (c : UInt8) : Lib.indexByte l c = match l.findIdx? (· == c) with | some i => (i : Int) | none => -1 := by
  induction l with
  | nil => rfl
  | cons b l ih =>
    rw [Lib.indexByte, List.findIdx?_cons, ih]
    by_cases h : (b == c) = true
    · rw [if_pos h, if_pos h]; rfl
    · rw [if_neg h, if_neg h]
      cases l.findIdx? (· == c) with
      | none => rfl
      | some i =>
        simp only [Option.map_some]
        have : (((i : Int)) == -1) = false := by rw [beq_eq_false_iff_ne]; omega
        rw [this]
        simp
theorem hf_ibsJ (args : Array Value) (w : World) : (callFunc 145 args).run Tryz.prog w = ((Extern.BytealgIndexByte.indexByte args).run Tryz.prog w).andThen fun v w' => .ok (.value v) w' :=
  run_callFunc_extern Tryz.func145 (by kernel_rfl) (by kernel_rfl) (by kernel_rfl) (by kernel_rfl) args w
attribute [local go_sem ↓] hf_ibsJ
theorem sliteJ (s : ByteArray) (w : World) : Calls Tryz.prog 136 #[.string s, .int .u8 47] w fun e w' => e = .returned (.int .i64 (Lib.indexByte s.data.toList 47)) ∧ w' = w := by
  have h := Lib.run_indexByteString (P := Tryz.prog) s 47
  simp only [show (47 : Int).toNat.toUInt8 = 47 from rfl] at h
  go_enter Tryz.func136, Tryz.ntmps136
  go_wp2
  go_ret
  exact ⟨rfl, rfl⟩
set_option maxHeartbeats 2000000 in
theorem indexJ (s : ByteArray) (w : World) : Calls Tryz.prog 126 #[.string s, .string ⟨#[47]⟩] w fun e w' => e = .returned (.int .i64 (Lib.indexByte s.data.toList 47)) ∧ w' = w := by
  by_cases h : ([47] == s.toList) = true
  · have e : Lib.indexByte s.data.toList 47 = 0 := by
      have h1 : [47] = s.toList := by simpa using h
      rw [Lib.toList_data] at h1
      rw [← h1]
      rfl
    rw [e]
    clear e
    go_enter Tryz.func126, Tryz.ntmps126
    go_wp2
    go_ret
    exact ⟨rfl, rfl⟩
  · have h' : ([47] == s.toList) = false := by simpa using h
    clear h
    go_enter Tryz.func126, Tryz.ntmps126
    go_wp2_with (go_at_call 136; refine (sliteJ s _).mono ?_; rintro _ _ ⟨rfl, rfl⟩)
    go_ret
    exact ⟨rfl, rfl⟩
theorem sindexG (s : ByteArray) (w : World) : Calls Tryz.prog 110 #[.string s, .string ⟨#[47]⟩] w fun e w' => e = .returned (.int .i64 (Lib.indexByte s.data.toList 47)) ∧ w' = w := by
  have h9 := hid (indexJ s w)
  go_enter Tryz.func110, Tryz.ntmps110
  go_wp2_with (go_at_call 126; refine h9.out.mono ?_; rintro _ w1 ⟨rfl, e1⟩; have E1 := hid e1; clear e1)
  go_ret
  exact ⟨rfl, E1.out⟩
/-- the names that a key is of -/
def namesG (s : ByteArray) : List ByteArray := Lib.splitB slashG 0 (Lib.countB s slashG) s
theorem indexB_byte (s : ByteArray) : Lib.indexB s slashG = Lib.indexByte s.data.toList 47 := Lib.index_one _ _
theorem names_none {s : ByteArray} (h : cutS s = none) : namesG s = [s] := by
  unfold cutS at h
  rw [Option.map_eq_none_iff] at h
  refine Lib.splitB_miss _ _ _ _ ?_
  rw [indexB_byte, index_find, h]
theorem names_some {s : ByteArray} {p : ByteArray × ByteArray} (h : cutS s = some p) : namesG s = p.1 :: namesG p.2 := by
  unfold cutS at h
  rw [Option.map_eq_some_iff] at h
  obtain ⟨i, hi, rfl⟩ := h
  have hx : Lib.indexB s slashG = (i : Int) := by rw [indexB_byte, index_find, hi]
  unfold namesG
  have hc := Lib.countB_hit s slashG i (by decide) hx
  rw [show Lib.countB s slashG = Lib.countB (s.extract (i + slashG.size) s.size) slashG + 1 by omega, Lib.splitB_hit _ _ _ _ i hx]
  rfl
theorem names_len (s : ByteArray) : (namesG s).length = Lib.countB s slashG + 1 := Lib.splitB_all slashG (by decide) 0 _ s rfl
theorem infoStr : (Tryz.prog.info? 9).map (fun i => (i.zero, i.size, i.bytes)) = some (some (.string ByteArray.empty), 1, 16) := by kernel_rfl
theorem genSplit_any (s : ByteArray) (hs : s.size < 4294967281) (w : World) :
    Calls Tryz.prog 83 #[.string s, .string slashG, .int .i64 0, .int .i64 (-1)] w fun e w' => e = .returned (.slice (some ⟨w.heap.size, 0, none⟩) (namesG s).length (namesG s).length) ∧ w' = w.alloc (.cells ((namesG s).map Value.string).toArray 9) := by
  have hle := Lib.countB_le slashG (by decide) s.size s (Nat.le_refl _)
  have hlen := names_len s
  have c := Any.strings_genSplit_core (P := Tryz.prog) (ρ := Tryz.laysSplit_ren) { Tryz.laysSplit with } infoStr s slashG 0 (-1) (Lib.countB s slashG + 1) w hs (by decide) (Nat.zero_le _)
    (fun x c hx => (sindexG x (w.alloc (.cells c 9))).mono (fun e w' h => ⟨by rw [h.1, indexB_byte], h.2⟩))
    ((Any.strings_Count_one (P := Tryz.prog) (ρ := Tryz.laysSplit_ren) { Tryz.laysSplit with } s 47 w).mono (fun e w' h => ⟨by
      rw [h.1]
      show _ = Ending.returned (Value.int .i64 ((Lib.count s.data.toList [47] : Nat) : Int))
      rw [Lib.count_one]
      rfl, h.2⟩))
    (by decide) (by decide) (by rw [if_pos (by decide)]; omega)
  rw [Nat.add_sub_cancel] at c
  refine c.mono fun e w' h => ⟨?_, ?_⟩
  · rw [h.1, hlen]
    rw [show (Lib.splitB slashG 0 (Lib.countB s slashG) s).length = Lib.countB s slashG + 1 from hlen]
  · rw [h.2, show Lib.countB s slashG + 1 = (Lib.splitB slashG 0 (Lib.countB s slashG) s).length from hlen.symm, Lib.cellsOf_full]
    rfl
set_option maxHeartbeats 1000000 in
theorem split_any (s : ByteArray) (hs : s.size < 4294967281) (w : World) :
    Calls Tryz.prog 70 #[.string s, .string ⟨#[47]⟩] w fun e w' => e = .returned (.slice (some ⟨w.heap.size, 0, none⟩) (namesG s).length (namesG s).length) ∧ w' = w.alloc (.cells ((namesG s).map Value.string).toArray 9) := by
  have h9 := hid (genSplit_any s hs w)
  obtain ⟨n, hn⟩ : ∃ n, n = (namesG s).length := ⟨_, rfl⟩
  obtain ⟨W, hW⟩ : ∃ W, W = w.alloc (.cells ((namesG s).map Value.string).toArray 9) := ⟨_, rfl⟩
  rw [← hn, ← hW] at h9 ⊢
  clear hn hW
  unfold slashG at h9
  go_enter Tryz.func70, Tryz.ntmps70
  go_wp2_with (go_at_call 83; refine h9.out.mono ?_; rintro _ w1 ⟨rfl, e1⟩; have E1 := hid e1; clear e1)
  go_ret
  exact ⟨rfl, E1.out⟩
end Go.Proofs.YtlkbojgemcjilaaGreatDoor.Xr
