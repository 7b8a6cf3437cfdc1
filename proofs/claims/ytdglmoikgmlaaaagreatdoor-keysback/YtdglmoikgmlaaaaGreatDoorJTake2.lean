/- YtdglmoikgmlaaaaGreatDoorJCut + YtdglmoikgmlaaaaGreatDoorJTake + YtdglmoikgmlaaaaGreatDoorJTake2 -/
import Derived.Test.YtdglmoikgmlaaaaGreatDoorJLM
import Derived.Lib.Bytealg
import Derived.Sort.Walk0
/- strings.Cut at a slash; onlyNumber of any columns. -/
namespace Go.Proofs.YtdglmoikgmlaaaaGreatDoor.Xr
open Go.RowKit Go.Maps
set_option linter.unusedVariables false
set_option maxRecDepth 20000
theorem index_find (l : List UInt8) (c : UInt8) : Lib.indexByte l c = match l.findIdx? (· == c) with | some i => (i : Int) | none => -1 := by
  induction l with
  | nil => rfl
  | cons b l ih =>
    rw [Lib.indexByte, List.findIdx?_cons, ih]
    by_cases h : (b == c) = true
    · rw [if_pos h, if_pos h]; rfl
    · rw [if_neg h, if_neg h]
      cases l.findIdx? (· == c) with
      | none => rfl
      | some i =>
        simp only [Option.map_some]
        have : (((i : Int)) == -1) = false := by rw [beq_eq_false_iff_ne]; omega
        rw [this]
        simp
theorem hf_ibsJ (args : Array Value) (w : World) : (callFunc 131 args).run Tryz.prog w = ((Extern.BytealgIndexByte.indexByte args).run Tryz.prog w).andThen fun v w' => .ok (.value v) w' :=
  run_callFunc_extern Tryz.func131 (by kernel_rfl) (by kernel_rfl) (by kernel_rfl) (by kernel_rfl) args w
attribute [local go_sem ↓] hf_ibsJ
theorem sliteJ (s : ByteArray) (w : World) : Calls Tryz.prog 116 #[.string s, .int .u8 47] w fun e w' => e = .returned (.int .i64 (Lib.indexByte s.data.toList 47)) ∧ w' = w := by
  have h := Lib.run_indexByteString (P := Tryz.prog) s 47
  simp only [show (47 : Int).toNat.toUInt8 = 47 from rfl] at h
  go_enter Tryz.func116, Tryz.ntmps116
  go_wp2
  go_ret
  exact ⟨rfl, rfl⟩
set_option maxHeartbeats 2000000 in
theorem indexJ (s : ByteArray) (w : World) : Calls Tryz.prog 101 #[.string s, .string ⟨#[47]⟩] w fun e w' => e = .returned (.int .i64 (Lib.indexByte s.data.toList 47)) ∧ w' = w := by
  by_cases h : ([47] == s.toList) = true
  · have e : Lib.indexByte s.data.toList 47 = 0 := by
      have h1 : [47] = s.toList := by simpa using h
      rw [Lib.toList_data] at h1
      rw [← h1]
      rfl
    rw [e]
    clear e
    go_enter Tryz.func101, Tryz.ntmps101
    go_wp2
    go_ret
    exact ⟨rfl, rfl⟩
  · have h' : ([47] == s.toList) = false := by simpa using h
    clear h
    go_enter Tryz.func101, Tryz.ntmps101
    go_wp2_with (go_at_call 116; refine (sliteJ s _).mono ?_; rintro _ _ ⟨rfl, rfl⟩)
    go_ret
    exact ⟨rfl, rfl⟩
/-- what Cut tells -/
def cutP (s : ByteArray) : ByteArray × ByteArray := (cutS s).getD (s, ⟨#[]⟩)
theorem find_lt {s : ByteArray} {i : Nat} (h : s.data.toList.findIdx? (· == 47) = some i) : i < s.size := by
  obtain ⟨h1, _⟩ := List.findIdx?_eq_some_iff_getElem.1 h
  rw [Lib.size_eq]
  exact h1
set_option maxHeartbeats 2000000 in
theorem cutL_any (s : ByteArray) (hs : s.size ≤ 140737488351232) (w : World) : Calls Tryz.prog 77 #[.string s, .string ⟨#[47]⟩] w fun e w' => e = .returned (.tuple #[.string (cutP s).1, .string (cutP s).2, .bool (cutS s).isSome]) ∧ Below w.heap.size w w' := by
  have hx := index_find s.data.toList 47
  unfold cutP cutS
  cases hf : s.data.toList.findIdx? (· == 47) with
  | none =>
    rw [hf] at hx
    simp only at hx
    simp only [Option.map_none, Option.getD_none, Option.isSome_none]
    have HI := hid (fun W => indexJ s W)
    rw [hx] at HI
    clear hx hf
    go_enter Tryz.func77, Tryz.ntmps77
    go_wp2_with (go_at_call 101; refine (HI.out _).mono ?_; rintro _ _ ⟨rfl, rfl⟩)
    go_ret3
    exact ⟨rfl, Below.refl _ _⟩
  | some i =>
    rw [hf] at hx
    simp only at hx
    simp only [Option.map_some, Option.getD_some, Option.isSome_some]
    have hlt := find_lt hf
    have HI := hid (fun W => indexJ s W)
    rw [hx] at HI
    have c1 : (0 : Int) ≤ ↑i := by omega
    have c2 : (↑i : Int) ≤ ↑s.size := by omega
    have c3 : (0 : Int) ≤ ↑i + 1 := by omega
    have c4 : (↑i + 1 : Int) ≤ ↑s.size := by omega
    have e1 : ((i : Int) + 1).toNat = i + 1 := by omega
    clear hx hf
    go_enter Tryz.func77, Tryz.ntmps77
    go_wp2_with (go_at_call 101; refine (HI.out _).mono ?_; rintro _ _ ⟨rfl, rfl⟩)
    go_region
    go_wp2
    go_ret3
    exact ⟨rfl, below_drewN _ _ _⟩
set_option maxHeartbeats 2000000 in
theorem cut_any (s : ByteArray) (hs : s.size ≤ 140737488351232) (w : World) : Calls Tryz.prog 56 #[.string s, .string ⟨#[47]⟩] w fun e w' => e = .returned (.tuple #[.string (cutP s).1, .string (cutP s).2, .bool (cutS s).isSome]) ∧ Below w.heap.size w w' := by
  have HC := hid (cutL_any s hs w)
  generalize (cutP s).1 = a at *
  generalize (cutP s).2 = b at *
  generalize (cutS s).isSome = c at *
  go_enter Tryz.func56, Tryz.ntmps56
  go_wp2_with (go_at_call 77; refine HC.out.mono ?_; rintro _ w1 ⟨rfl, b1⟩)
  go_ret3
  exact ⟨rfl, b1⟩
set_option maxHeartbeats 2000000 in
theorem onlyNumber_any {w : World} {a : Option Addr} {cols : List ByteArray} (n cap : Nat) (hn : n = cols.length) (h : Texts w a cols) (hl : cols.length ≤ 140737488351232) (hs : ∀ c ∈ cols, c.size ≤ 140737488351232) (lo hi : Nat) :
    Calls Tryz.prog 78 #[.slice a n cap, .int .i64 (lo : Int), .int .i64 (hi : Int)] w fun e w' => e = .returned (.tuple #[.int .i64 (((oneN cols lo hi).getD 0 : Nat) : Int), .bool (oneN cols lo hi).isSome]) ∧ w' = w := by
  unfold oneN
  by_cases h1 : cols.length = 1
  · obtain ⟨c, rfl⟩ := List.length_eq_one_iff.1 h1
    obtain ⟨b, o, rfl, hc⟩ := h 0 (by simp)
    simp only [List.getElem_cons_zero, Nat.add_zero] at hc
    have hc0 := hs c (by simp)
    have HN := hid (numberJ_any c (by unfold maxLen; omega) lo hi w)
    rw [if_pos (show [c].length = 1 from rfl)]
    simp only [List.headD_cons]
    generalize numR c.data.toList lo hi = r at *
    have hn1 : n = 1 := hn
    subst hn1
    clear h hs hl hn h1
    go_enter Tryz.func78, Tryz.ntmps78
    go_wp2_with (go_at_call 102; refine HN.out.mono ?_; rintro _ w1 ⟨rfl, e9⟩; subst w1)
    go_ret2
    exact ⟨rfl, rfl⟩
  · rw [if_neg h1]
    have d1 : ((n : Int) != 1) = true := by simp; omega
    clear h hs hl
    go_enter Tryz.func78, Tryz.ntmps78
    go_wp2
    go_ret2
    exact ⟨rfl, rfl⟩
end Go.Proofs.YtdglmoikgmlaaaaGreatDoor.Xr

/- take of one row, by contracts. -/
namespace Go.Proofs.YtdglmoikgmlaaaaGreatDoor.Xr
open Go.RowKit Go.Maps
set_option linter.unusedVariables false
set_option maxRecDepth 20000
section
variable {w w' : World} {B g mv mg nv ng n : Nat} {root : List UInt8} {V G : DataW Unit} {s : TS} {d : Nat}
set_option maxHeartbeats 2000000 in
theorem takeSealed_any (h : TreeAt w B g root mv mg nv ng V G n) {a : Option Addr} {cols : List ByteArray} (k cap : Nat) (hk : k = cols.length) (ht : Texts w a cols) (hl : cols.length ≤ 140737488351232) (hs : ∀ c ∈ cols, c.size ≤ 140737488351232) :
    Calls Tryz.prog 57 #[.pointer (some ⟨g, 0, none⟩), .slice a k cap] w fun e w' => e = .returned (.bool (oneN cols 0 1099511627776).isSome) ∧ TreeAt w' B g root mv mg nv ng V G ((oneN cols 0 1099511627776).getD 0) ∧ OutJ (fun j => j = g) w w' := by
  have HO := hid (onlyNumber_any k cap hk ht hl hs 0 1099511627776)
  have H := hid h
  have fz := h.fz 34
  have c34 := h.c34
  generalize oneN cols 0 1099511627776 = r at *
  clear h ht hl hs hk
  go_enter Tryz.func57, Tryz.ntmps57
  go_wp2_with (go_at_call 78; refine HO.out.mono ?_; rintro _ w1 ⟨rfl, e9⟩; subst w1)
  go_ret
  exact ⟨rfl, H.out.setN _, OutJ.setCell _ _ _ rfl⟩
/-- reach, asked for a tenant by its own name and a purpose -/
theorem reach_m (h : TreeM w B g mv mg root s d) (t u : ByteArray) (ht : t.size ≤ maxLen) (hu : u.size ≤ maxLen) (a : Option Addr) (hx : Texts w a [t, u]) :
    Calls Tryz.prog 46 #[.pointer (some ⟨g, 0, none⟩), .string t, .slice a 2 2] w fun e w' => e = .returned (.int .i64 ((s.cur t u).2 : Int)) ∧ Below w.heap.size w w' := by
  obtain ⟨ok, hne, nv, ng, V, G, h1, hV, hG, _⟩ := h
  unfold TS.cur
  by_cases hn : (okN t && okN u) = true
  · rw [if_pos hn]
    obtain ⟨n1, n2⟩ := (Bool.and_eq_true _ _).mp hn
    refine (reach_any h1 t ht [t, u] a 2 2 rfl hx (by simp) (fun s hs => by simp at hs; rcases hs with rfl | rfl; exact ⟨ht, n1⟩; exact ⟨hu, n2⟩) (isIn s.gs t) (hG.has t)).mono fun e w' h => ?_
    obtain ⟨rfl, hb⟩ := h
    refine ⟨?_, hb⟩
    unfold goneE
    cases isIn s.gs t <;> rfl
  · rw [if_neg hn]
    exact (reach_bad t [t, u] a 2 2 rfl hx (by simp) (fun s hs => by simp at hs; rcases hs with rfl | rfl; exact ht; exact hu) (by simpa using hn)).mono fun e w' ⟨h1, h2⟩ => ⟨h1, h2 ▸ Below.refl _ _⟩
theorem texts2J (w : World) (p q : ByteArray) : Texts (w.alloc (.cells #[.string p, .string q] 9)) (some ⟨w.heap.size, 0, none⟩) [p, q] := fun i hi => by
  refine ⟨w.heap.size, 0, rfl, ?_⟩
  rw [World.cell?_alloc_at _ _ _ _ rfl]
  match i, hi with
  | 0, _ => rfl
  | 1, _ => rfl
/-- what take leaves -/
def TakeP (w : World) (B g mv mg : Nat) (root : List UInt8) (d : Nat) (o : Option TS) (e : Ending) (w' : World) : Prop := e = .returned (.bool o.isSome) ∧ (∀ s', o = some s' → TreeM w' B g mv mg root s' (d + 1)) ∧ OutJ (Mine g mv mg) w w'
theorem TakeP.no (hb : Below w.heap.size w w') : TakeP w B g mv mg root d none (.returned (.bool false)) w' := ⟨rfl, (fun _ h => nomatch h), OutJ.of_below hb⟩
/-- takeVersion, as mathematics -/
def tvR (s : TS) (t u : ByteArray) (cols : List ByteArray) : Option TS := (oneN cols 2 16).bind fun v => if (s.cur t u).2 = 0 ∧ s.vs.length ≠ 16 then some (s.rot t u v) else none
set_option maxHeartbeats 4000000 in
theorem takeVersion_any (h : TreeM w B g mv mg root s d) (hd : d ≤ 900) (t u : ByteArray) (ht : t.size ≤ maxLen) (hu : u.size ≤ maxLen) {a : Option Addr} {cols : List ByteArray} (k cap : Nat) (hk : k = cols.length) (hx : Texts w a cols) (hl : cols.length ≤ 140737488351232) (hs : ∀ c ∈ cols, c.size ≤ 140737488351232) :
    Calls Tryz.prog 58 #[.pointer (some ⟨g, 0, none⟩), .string t, .string u, .slice a k cap] w (TakeP w B g mv mg root d (tvR s t u cols)) := by
  have HO := hid (onlyNumber_any k cap hk hx hl hs 2 16)
  unfold tvR
  have hsome : ∀ v, oneN cols 2 16 = some v → 2 ≤ v ∧ v ≤ 16 := fun v hv => (oneN_some hv).2
  cases hr : oneN cols 2 16 with
  | none =>
    rw [hr] at HO
    simp only [Option.bind_none]
    clear h hx hl hs hk hr hsome
    go_enter Tryz.func58, Tryz.ntmps58
    go_wp2_with (go_at_call 78; refine HO.out.mono ?_; rintro _ w1 ⟨rfl, e9⟩; subst w1)
    go_ret
    exact TakeP.no (Below.refl _ _)
  | some v =>
    rw [hr] at HO
    obtain ⟨v2, v16⟩ := hsome v hr
    simp only [Option.bind_some, Option.getD_some, Option.isSome_some] at HO ⊢
    have b0 : Below w.heap.size w (w.alloc (.cells #[.string t, .string u] 9)) := (Below.refl _ w).alloc (Nat.le_refl _) _
    have HR := hid (reach_m (h.below b0) t u ht hu (some ⟨w.heap.size, 0, none⟩) (texts2J w t u))
    have B0 := hid b0
    have H := hid h
    have hV16 := hsome
    clear hx hl hs hk hr hsome b0 hV16
    by_cases he : (s.cur t u).2 = 0
    · rw [he] at HR
      obtain ⟨n1, n2, hg, hc⟩ := cur_ok he
      by_cases hf : s.vs.length = 16
      · rw [if_neg (fun h9 => h9.2 hf)]
        obtain ⟨ok, hne, nv, ng, V, G, h1, hV, hG, l1, l2⟩ := h
        have H1 := hid h1
        have g2 : ((Maps.size V : Int) == 16) = true := by rw [hV.size, hf]; rfl
        clear h1 hV hG ok hf he hc hg n1 n2 hne
        go_enter Tryz.func58, Tryz.ntmps58
        go_wp2_with (first
          | (go_at_call 78; refine HO.out.mono ?_; rintro _ w1 ⟨rfl, e9⟩; subst w1)
          | (go_at_call 46; refine HR.out.mono ?_; rintro _ w1 ⟨rfl, b1⟩; have B1 := hid (Below.on' B0.out b1); have hT1 := H1.out.below B1.out; have c32 := hT1.c32; have hlen := hT1.vm.len Tryz.underlying52 3; clear b1 hT1))
        go_ret
        exact TakeP.no B1.out
      · rw [if_pos ⟨he, hf⟩]
        have hrok := rotV_ok (by obtain ⟨ok, _⟩ := h; exact ok) he v2 v16 hf
        obtain ⟨ok, hne, nv, ng, V, G, h1, hV, hG, l1, l2⟩ := h
        have H1 := hid h1
        have g2 : ((Maps.size V : Int) == 16) = false := by rw [hV.size, beq_eq_false_iff_ne]; omega
        have hVr := hV.rot ok t u ht hu v
        have hkl := hid (keyOf_place t u ht hu)
        have hwf : (Lit.int .i64 (v : Int)).wf = true := by simp [Lit.wf, IntKind.min, IntKind.max, IntKind.signed, IntKind.bits]; omega
        have Hwf := hid hwf
        have Hok := hid hrok
        have HVr := hid hVr
        have HG := hid hG
        have Hne := hid hne
        clear h1 hV hG ok hf he hc hg n1 n2 hne hwf hVr hrok
        go_enter Tryz.func58, Tryz.ntmps58
        go_wp2_with (first
          | (go_at_call 78; refine HO.out.mono ?_; rintro _ w1 ⟨rfl, e9⟩; subst w1)
          | (go_at_call 46; refine HR.out.mono ?_; rintro _ w1 ⟨rfl, b1⟩; have B1 := hid (Below.on' B0.out b1); have hT1 := H1.out.below B1.out; have c32 := hT1.c32; have hlen := hT1.vm.len Tryz.underlying52 3; have HT1 := hid hT1; clear b1 hT1)
          | (at_mapUpdate; refine wpList_mapUpdate_own _ rfl _ _ _ 52 rfl 71 3 lawPlace Tryz.underlying52 _ mv nv V rfl HT1.out.vm (by unfold maxLen; omega) _ _ _ rfl rfl hkl.out _ [] (plainElem_int Tryz.underlying3 Hwf.out) ?_; intro w2 hown2 hg2))
        go_ret
        refine ⟨rfl, fun s' hs' => ?_, ?_⟩
        · obtain rfl := Option.some.inj hs'
          exact ⟨Hok.out, Hne.out, _, _, _, _, ⟨(hg2.block g HT1.out.lt (fun e => HT1.out.mvne.1 (Option.some.inj e).symm)).trans HT1.out.obj, hown2, HT1.out.gm.kept hg2 (fun e => Hne.out (Option.some.inj e).symm), HT1.out.len, HT1.out.bg, HT1.out.bv, HT1.out.bm⟩, HVr.out, HG.out, by omega, by omega⟩
        · exact (OutJ.of_below B1.out).trans ⟨hg2.os, hg2.tape, hg2.output, hg2.size, fun j hj hp => hg2.block j hj (fun e => hp (.inr (.inl (Option.some.inj e))))⟩
    · rw [if_neg (fun h9 => he h9.1)]
      have he1 : (((s.cur t u).2 : Int) != 0) = true := by simp; omega
      have He := hid he
      clear he h
      generalize ((s.cur t u).2 : Int) = c at *
      go_enter Tryz.func58, Tryz.ntmps58
      go_wp2_with (first
        | (go_at_call 78; refine HO.out.mono ?_; rintro _ w1 ⟨rfl, e9⟩; subst w1)
        | (go_at_call 46; refine HR.out.mono ?_; rintro _ w1 ⟨rfl, b1⟩; have B1 := hid (Below.on' B0.out b1); clear b1))
      go_ret
      exact TakeP.no B1.out
end
end Go.Proofs.YtdglmoikgmlaaaaGreatDoor.Xr

/- take of a row; Rising. -/
namespace Go.Proofs.YtdglmoikgmlaaaaGreatDoor.Xr
open Go.RowKit Go.Maps
set_option linter.unusedVariables false
set_option maxRecDepth 20000
theorem takeR_head {s : TS} {r : Rw} (h : r.key = headK) : takeR s r = (oneN r.cols 0 1099511627776).map fun n => { s with n := n } := by
  unfold takeR
  rw [if_pos h]
theorem takeR_ver {s : TS} {r : Rw} (h : r.key ≠ headK) {p : ByteArray × ByteArray} (hc : cutS r.key = some p) : takeR s r = tvR s p.1 p.2 r.cols := by
  unfold takeR tvR
  rw [if_neg h, hc]
theorem takeR_gone {s : TS} {r : Rw} (h : r.key ≠ headK) (hc : cutS r.key = none) : takeR s r = if r.cols.length = 0 ∧ (s.desR r.key).2 = 0 then some (s.desR r.key).1 else none := by
  unfold takeR
  rw [if_neg h, hc]
theorem cutP_size (s : ByteArray) : (cutP s).1.size ≤ s.size ∧ (cutP s).2.size ≤ s.size := by
  unfold cutP cutS
  cases s.data.toList.findIdx? (· == 47) with
  | none => exact ⟨Nat.le_refl _, Nat.zero_le _⟩
  | some i =>
    simp only [Option.map_some, Option.getD_some]
    constructor
    · rw [ByteArray.size_extract]; omega
    · rw [ByteArray.size_extract]; omega
set_option maxHeartbeats 4000000 in
theorem take_any {w : World} {B g mv mg : Nat} {root : List UInt8} {s : TS} {d : Nat} (h : TreeM w B g mv mg root s d) (hd : d ≤ 900) (r : Rw) (a : Option Addr) (k cap : Nat) (hk : k = r.cols.length) (hx : Texts w a r.cols) (hl : r.cols.length ≤ 140737488351232) (hs : ∀ c ∈ r.cols, c.size ≤ 140737488351232) (hk9 : r.key.size ≤ 140737488351232) :
    Calls Tryz.prog 37 #[.pointer (some ⟨g, 0, none⟩), .agg #[.string r.key, .slice a k cap]] w (TakeP w B g mv mg root d (takeR s r)) := by
  obtain ⟨W0, hW0⟩ : ∃ W0, W0 = w.alloc (.cells #[.string r.key, .slice a k cap] 67) := ⟨_, rfl⟩
  have b0 : Below w.heap.size w W0 := by rw [hW0]; exact (Below.refl _ w).alloc (Nat.le_refl _) _
  have x0 : W0.heap[w.heap.size]? = some (.cells #[.string r.key, .slice a k cap] 67 (0, 0)) := by rw [hW0]; exact heap_alloc_new w _
  have HC := hid (cut_any r.key hk9 W0)
  have B0 := hid b0
  have X0 := hid x0
  have HW0 := hid hW0.symm
  have cK : W0.cell? ⟨w.heap.size, 0, none⟩ = some (.string r.key) := (cell_of_row _ _ 0 _ _ _ x0).trans rfl
  have hc2 : ∀ W, Below W0.heap.size W0 W → W.cell? ⟨w.heap.size, 0, none⟩ = some (.string r.key) ∧ W.cell? ⟨w.heap.size, 1, none⟩ = some (.slice a k cap) := fun W hW => by
    have h1 := (hW.block _ (heap_lt x0)).trans x0
    exact ⟨(cell_of_row _ _ 0 _ _ _ h1).trans rfl, (cell_of_row _ _ 1 _ _ _ h1).trans rfl⟩
  have HC2 := hid hc2
  have sz := hid (cutP_size r.key)
  by_cases hh : r.key = headK
  · rw [takeR_head hh]
    obtain ⟨ok, hne, nv, ng, V, G, h1, hV, hG, l1, l2⟩ := h
    have e1 : (r.key.toList == headK.toList) = true := by rw [hh]; simp
    have HS := hid (fun (W : World) (hW : Below w.heap.size w W) => takeSealed_any (h1.below hW) (a := a) (cols := r.cols) k cap hk (hx.below hW) hl hs)
    have hset : ∀ n, oneN r.cols 0 1099511627776 = some n → n ≤ 1099511627776 := fun n hn => (oneN_some hn).2.2
    have Ok := hid ok
    have HV := hid hV
    have HG := hid hG
    have Hne := hid hne
    generalize oneN r.cols 0 1099511627776 = o at *
    have e2 : (r.key.toList == [35]) = true := by rw [hh]; decide +kernel
    have E2 := hid e2
    generalize (cutP r.key).1 = p1 at *
    generalize (cutP r.key).2 = p2 at *
    generalize (cutS r.key).isSome = q at *
    generalize r.key = key at *
    clear hh h1 hx hl hs hk hW0 b0 x0 hc2 ok hV hG hne hset
    go_enter Tryz.func37, Tryz.ntmps37
    go_wp2_with (first
      | (go_at_call 56; rw [HW0.out]; refine HC.out.mono ?_; rintro _ w1 ⟨rfl, b1⟩; have B1 := hid b1; have c0 := (HC2.out w1 b1).1; have c1 := (HC2.out w1 b1).2; clear b1)
      | (go_at_call 57; refine (HS.out w1 (Below.on' B0.out B1.out)).mono ?_; rintro _ w2 ⟨rfl, t2, o2⟩))
    go_ret
    refine ⟨by rw [Option.isSome_map]; rfl, fun s' hs' => ?_, (OutJ.of_below (Below.on' B0.out B1.out)).trans (o2.mono fun k hk => .inl hk)⟩
    cases o with
    | none => cases hs'
    | some n =>
      obtain rfl := Option.some.inj hs'
      exact ⟨⟨Ok.out.names, Ok.out.nodup, Ok.out.gnames, Ok.out.gnodup, Ok.out.few, Ok.out.gfew⟩, Hne.out, nv, ng, V, G, t2, HV.out, HG.out, by omega, by omega⟩
  · have e2 : (r.key.toList == [35]) = false := by
      rw [beq_eq_false_iff_ne]
      intro e
      exact hh ((str_eq _ _).2 (e.trans (by decide +kernel)))
    have H := hid h
    cases hcut : cutS r.key with
    | some p =>
      rw [takeR_ver hh hcut]
      have hP : cutP r.key = p := by unfold cutP; rw [hcut]; rfl
      have hsz := sz.out
      rw [hP] at hsz HC
      rw [hcut] at HC
      simp only [Option.isSome_some] at HC
      obtain ⟨p1, p2⟩ := p
      simp only at hsz HC ⊢
      have HV := hid (fun (W : World) (hW : Below w.heap.size w W) => takeVersion_any (h.below hW) hd p1 p2 (by unfold maxLen; omega) (by unfold maxLen; omega) (a := a) (cols := r.cols) k cap hk (hx.below hW) hl hs)
      generalize tvR s p1 p2 r.cols = o at *
      clear sz hP hsz
      generalize r.key = key at *
      clear hh hx hl hs hk hW0 b0 x0 hc2 hcut h
      go_enter Tryz.func37, Tryz.ntmps37
      go_wp2_with (first
        | (go_at_call 56; rw [HW0.out]; refine HC.out.mono ?_; rintro _ w1 ⟨rfl, b1⟩; have B1 := hid b1; have c0 := (HC2.out w1 b1).1; have c1 := (HC2.out w1 b1).2; clear b1)
        | (go_at_call 58; refine (HV.out w1 (Below.on' B0.out B1.out)).mono ?_; rintro _ w2 ⟨rfl, t2, o2⟩))
      go_ret
      exact ⟨rfl, t2, (OutJ.of_below (Below.on' B0.out B1.out)).trans o2⟩
    | none =>
      rw [takeR_gone hh hcut]
      have hP : cutP r.key = (r.key, ⟨#[]⟩) := by unfold cutP; rw [hcut]; rfl
      rw [hP, hcut] at HC
      simp only [Option.isSome_none] at HC
      have HD := hid (fun (W : World) (hW : Below w.heap.size w W) => destroy_m (h.below hW) hd r.key (by unfold maxLen; omega))
      rw [← hk]
      generalize s.desR r.key = o at *
      obtain ⟨s1, e⟩ := o
      simp only at HD ⊢
      clear sz hP
      generalize r.key = key at *
      clear hh hx hl hs hk hW0 b0 x0 hc2 hcut h
      by_cases hk0 : k = 0
      · subst hk0
        by_cases he : e = 0
        · subst he
          rw [if_pos ⟨rfl, rfl⟩]
          go_enter Tryz.func37, Tryz.ntmps37
          go_wp2_with (first
            | (go_at_call 56; rw [HW0.out]; refine HC.out.mono ?_; rintro _ w1 ⟨rfl, b1⟩; have B1 := hid b1; have c0 := (HC2.out w1 b1).1; have c1 := (HC2.out w1 b1).2; clear b1)
            | (go_at_call 22; refine (HD.out w1 (Below.on' B0.out B1.out)).mono ?_; rintro _ w2 ⟨rfl, t2, o2⟩))
          go_ret
          exact ⟨rfl, (fun s' hs' => Option.some.inj hs' ▸ t2), (OutJ.of_below (Below.on' B0.out B1.out)).trans o2⟩
        · rw [if_neg (fun h => he h.2)]
          have he1 : ((e : Int) == 0) = false := by simp; omega
          generalize (e : Int) = e at *
          go_enter Tryz.func37, Tryz.ntmps37
          go_wp2_with (first
            | (go_at_call 56; rw [HW0.out]; refine HC.out.mono ?_; rintro _ w1 ⟨rfl, b1⟩; have B1 := hid b1; have c0 := (HC2.out w1 b1).1; have c1 := (HC2.out w1 b1).2; clear b1)
            | (go_at_call 22; refine (HD.out w1 (Below.on' B0.out B1.out)).mono ?_; rintro _ w2 ⟨rfl, t2, o2⟩))
          go_ret
          exact ⟨rfl, (fun s' hs' => nomatch hs'), (OutJ.of_below (Below.on' B0.out B1.out)).trans o2⟩
      · rw [if_neg (fun h => hk0 h.1)]
        have hk1 : ((k : Int) == 0) = false := by simp; omega
        clear hk0
        go_enter Tryz.func37, Tryz.ntmps37
        go_wp2_with (first
          | (go_at_call 56; rw [HW0.out]; refine HC.out.mono ?_; rintro _ w1 ⟨rfl, b1⟩; have B1 := hid b1; have c0 := (HC2.out w1 b1).1; have c1 := (HC2.out w1 b1).2; clear b1))
        go_ret
        exact TakeP.no (Below.on' B0.out B1.out)
/-- each key lies above the one ahead -/
def riseB : List Rw → Bool
  | a :: b :: m => decide (a.key.toList < b.key.toList) && riseB (b :: m)
  | _ => true
theorem lt_tr {x y z : List UInt8} (h1 : x < y) (h2 : y < z) : x < z := List.lt_trans h1 h2
theorem riseB_iff : ∀ m : List Rw, riseB m = true ↔ Rise m
  | [] => ⟨fun _ => List.Pairwise.nil, fun _ => rfl⟩
  | [a] => ⟨fun _ => List.pairwise_singleton _ _, fun _ => rfl⟩
  | a :: b :: m => by
    unfold riseB
    rw [Bool.and_eq_true, riseB_iff (b :: m), decide_eq_true_iff]
    constructor
    · rintro ⟨h1, h2⟩
      refine List.pairwise_cons.2 ⟨fun x hx => ?_, h2⟩
      rcases List.mem_cons.1 hx with rfl | hx
      · exact h1
      · exact lt_tr h1 ((List.pairwise_cons.1 h2).1 x hx)
    · intro h
      obtain ⟨h1, h2⟩ := List.pairwise_cons.1 h
      exact ⟨h1 b List.mem_cons_self, h2⟩
theorem riseB_snoc : ∀ (m : List Rw) (a b : Rw), riseB (m ++ [a, b]) = (riseB (m ++ [a]) && decide (a.key.toList < b.key.toList))
  | [], a, b => by simp [riseB]
  | [x], a, b => by simp [riseB]
  | x :: y :: m, a, b => by
    have ih := riseB_snoc (y :: m) a b
    simp only [List.cons_append] at ih ⊢
    rw [riseB, riseB, ih, Bool.and_assoc]
theorem riseB_take {m : List Rw} {k : Nat} (h0 : 0 < k) (hk : k < m.length) : riseB (m.take (k + 1)) = (riseB (m.take k) && decide ((m[k - 1]'(by omega)).key.toList < m[k].key.toList)) := by
  obtain ⟨j, rfl⟩ : ∃ j, k = j + 1 := ⟨k - 1, by omega⟩
  have e1 : m.take (j + 1) = m.take j ++ [m[j]] := List.take_succ_eq_append_getElem (by omega)
  have e2 : m.take (j + 1 + 1) = m.take j ++ [m[j], m[j + 1]] := by
    rw [List.take_succ_eq_append_getElem hk, e1, List.append_assoc]
    rfl
  rw [e2, riseB_snoc, e1]
  simp
theorem riseB_pre {m : List Rw} (k : Nat) (h : riseB m = true) : riseB (m.take k) = true := (riseB_iff _).2 (((riseB_iff _).1 h).sublist (List.take_sublist _ _))
set_option maxHeartbeats 4000000 in
theorem rising_any {w : World} {m : List Rw} (a : Option Addr) (n cap : Nat) (hn : n = m.length) (h : RIn w a m) (hs : m.length ≤ 140737488351232) :
    Calls Tryz.prog 36 #[.slice a n cap] w fun e w' => e = .returned (.bool (riseB m)) ∧ Below w.heap.size w w' := by
  have H := hid h
  have Hn := hid hn
  have hn9 : n ≤ 140737488351232 := by omega
  clear h hn hs
  go_enter Tryz.func36, Tryz.ntmps36
  go_wp2
  go_loopw [3] (fun i wr => ∃ k : Nat, i = .int .i64 (k : Int) ∧ 0 < k ∧ k ≤ max 1 n ∧ riseB (m.take k) = true ∧ Below w.heap.size w wr) (fun i _ => n + 1 - (intOf i).toNat)
  case atStart =>
    refine ⟨1, rfl, by omega, by omega, ?_, Below.refl _ _⟩
    cases m with
    | nil => rfl
    | cons x m => rfl
  case round =>
    obtain ⟨k, rfl, h0, hk, hpre, hb⟩ := hrel
    have Hpre := hid hpre
    have HB := hid hb
    clear hpre hb
    by_cases hlt : k < n
    · have g1 : (k : Int) < (n : Int) := by omega
      have hkm : k < m.length := by have := Hn.out; omega
      obtain ⟨j, rfl⟩ : ∃ j, k = j + 1 := ⟨k - 1, by omega⟩
      obtain ⟨b, o, ad, cp, rfl, c1, _⟩ := H.out.below HB.out j (by omega)
      obtain ⟨b2, o2, ad2, cp2, e2, c2, _⟩ := H.out.below HB.out (j + 1) hkm
      injection e2 with e3
      injection e3 with e3 e4
      subst e3 e4
      have Hst := hid (riseB_take h0 hkm)
      simp only [Nat.add_sub_cancel] at Hst
      generalize m[j].key = x at *
      generalize m[j + 1].key = y at *
      have g2 : IntKind.i64.wrap ((j + 1 : Nat) - 1 : Int) = (j : Int) := by rw [IntKind.wrap_i64]; omega
      have g3 : (j : Int) < (n : Int) := by omega
      have g4 : (0 : Int) ≤ (j : Int) := by omega
      have g5 : (0 : Int) ≤ ((j + 1 : Nat) : Int) := by omega
      have C1 := hid c1
      have C2 := hid c2
      by_cases hxy : x.toList < y.toList
      · have e5 : Go.Op.bytesLess x.toList y.toList = true := by rw [bytesLess_eq]; exact decide_eq_true hxy
        have Hlt := hid hxy
        clear hxy
        go_wp2
        go_quiet (fail)
        go_wp2
        go_roundw
        case rel => exact ⟨j + 1 + 1, by go_num, by omega, by omega, by rw [Hst.out, Hpre.out, decide_eq_true Hlt.out]; rfl, HB.out.trans (below_drewN _ _ _)⟩
        case measure => simp [intOf]; omega
      · have e5 : Go.Op.bytesLess x.toList y.toList = false := by rw [bytesLess_eq]; exact decide_eq_false hxy
        have Hlt := hid hxy
        clear hxy
        go_wp2
        go_quiet (fail)
        go_wp2
        go_ret
        refine ⟨?_, HB.out.trans (below_drewN _ _ _)⟩
        have : riseB m = false := by
          cases hr : riseB m with
          | false => rfl
          | true =>
            have h9 := riseB_pre (j + 1 + 1) hr
            rw [Hst.out, Hpre.out, decide_eq_false Hlt.out] at h9
            cases h9
        rw [this]
        rfl
    · have g1 : ¬ (k : Int) < (n : Int) := by omega
      have hm : Hid (riseB m = true) := by
        have h1 := Hpre.out
        by_cases h2 : m.length ≤ k
        · rw [List.take_of_length_le h2] at h1; exact h1
        · have := Hn.out; omega
      go_wp2
      go_ret
      refine ⟨?_, HB.out⟩
      rw [hm.out]
      rfl
end Go.Proofs.YtdglmoikgmlaaaaGreatDoor.Xr
