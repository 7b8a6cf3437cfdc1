/- A group of pages, sorted by their numbers: the closure, the sort, the copy, each by a contract. -/
import Derived.Test.YthdcjepkehifoaaGreatWFits
import Derived.Test.YthdcjepkehifoaaGreatShelf
namespace Go.Proofs.YthdcjepkehifoaaGreat
open Go.RowKit Go.Maps Go.Shelf Go.Sort Go.Lib
set_option linter.unusedVariables false
set_option maxRecDepth 20000

/-- a page that is handed in: its number, and where its bytes lie -/
abbrev PgV := Int × Option Addr × Nat × Nat
def encPg (x : PgV) : List Value := [.int .i64 x.1, .slice x.2.1 x.2.2.1 x.2.2.2]
theorem encPg_one (x : PgV) : ∀ v ∈ encPg x, v.oneCell' = true := fun v hv => by
  simp [encPg] at hv
  rcases hv with rfl | rfl <;> rfl

set_option maxHeartbeats 1000000 in
theorem closure_any (x y : PgV) (W : World) : Calls Tryz.prog 99 #[.agg #[.int .i64 x.1, .slice x.2.1 x.2.2.1 x.2.2.2], .agg #[.int .i64 y.1, .slice y.2.1 y.2.2.1 y.2.2.2]] W fun e w' => e = .returned (.int .i64 (Lib.compareInt x.1 y.1)) ∧ ∃ q os', w' = grow (W.drewN q) os' := by
  have hcon := fun W' => AnyG.cmp_Compare_int Tryz.cmpInt x.1 y.1 W'
  change ∀ W', Calls Tryz.prog 100 _ _ _ at hcon
  generalize Lib.compareInt x.1 y.1 = r at hcon ⊢
  go_enter Tryz.func99, Tryz.ntmps99
  go_wp2_with (go_at_call 100; refine (hcon _).mono ?_; rintro e w' ⟨rfl, rfl⟩)
  go_ret
  exact ⟨rfl, 0, _, by rw [alloc_eq_grow, alloc_eq_grow, grow_grow]; rfl⟩

theorem ltPg (x y : PgV) : ltOf (fun x y : PgV => Lib.compareInt x.1 y.1) x y = decide (x.1 < y.1) := by
  unfold ltOf Lib.compareInt
  by_cases h1 : x.1 < y.1
  · simp [h1]
  · by_cases h2 : y.1 < x.1 <;> simp [h1, h2]
theorem swoPg : SWO (ltOf fun x y : PgV => Lib.compareInt x.1 y.1) where
  irrefl x := by rw [ltPg]; simp
  trans x y z h1 h2 := by rw [ltPg] at *; simp at *; omega
  ntrans x y z h1 h2 := by rw [ltPg] at *; simp at *; omega

/-- pages that lie in a row of the world -/
def PgsAt (w : World) (b o : Nat) (l : List PgV) : Prop := ∀ i (h : i < l.length), w.cell? ⟨b, o + i * 2, none⟩ = some (.int .i64 l[i].1) ∧ w.cell? ⟨b, o + i * 2 + 1, none⟩ = some (.slice l[i].2.1 l[i].2.2.1 l[i].2.2.2)
theorem PgsAt.keep {w w' : World} {b o : Nat} {l : List PgV} (h : PgsAt w b o l) (hk : w'.heap[b]? = w.heap[b]?) : PgsAt w' b o l := fun i hi =>
  ⟨(World.cell?_of_block (a := ⟨b, o + i * 2, none⟩) hk).trans (h i hi).1, (World.cell?_of_block (a := ⟨b, o + i * 2 + 1, none⟩) hk).trans (h i hi).2⟩

theorem sort_world {w : World} {g n : Nat} {d : Array PgV} {os : Array Obj} : Out (fun k => k = g) w (sortWorldK encPg 2 w g 0 n d os) := by
  refine ⟨rfl, rfl, rfl, ?_, fun k hk hne => ?_⟩
  · show w.heap.size ≤ ((putRowK encPg 2 (Sort.ahead w n) g 0 d).heap ++ os).size
    have : (putRowK encPg 2 (Sort.ahead w n) g 0 d).heap.size = w.heap.size := size_putRow _ _ _ _ _
    simp [this]
  · have hs : (putRowK encPg 2 (Sort.ahead w n) g 0 d).heap.size = w.heap.size := size_putRow _ _ _ _ _
    show ((putRowK encPg 2 (Sort.ahead w n) g 0 d).heap ++ os)[k]? = w.heap[k]?
    rw [Array.getElem?_append_left (by rw [hs]; exact hk)]
    show (w.heap.modify g _)[k]? = _
    rw [Array.getElem?_modify, if_neg (fun e => hne e.symm)]

set_option maxHeartbeats 1000000 in
theorem sort_any (l : List PgV) (g c : Nat) (w : World) (hH : HoldsK encPg 2 w g 0 l.toArray) (hg : g < w.heap.size) (hl : l.length ≤ 1000) :
    Calls Tryz.prog 98 #[.slice (some ⟨g, 0, none⟩) l.length c, .func (.func 99) #[] #[]] w fun e w' => e = .returned (.tuple #[]) ∧ ∃ s : List PgV, s.Perm l ∧ s.Pairwise (fun a b => a.1 ≤ b.1) ∧ PgsAt w' g 0 s ∧ Out (fun k => k = g) w w' := by
  have eg : ∀ args w, (callFunc 99 args).run Tryz.prog w = .ok (.enter 99 args) w := enters_of Tryz.func99 (by kernel_rfl) rfl
  have hcon := AnyQ.slices_SortFunc Tryz.sortPg 2 Tryz.isAgg94 Tryz.sizeOf94 encPg (fun _ => rfl) encPg_one (fun x y => Lib.compareInt x.1 y.1) swoPg 99 #[] g 0 c l.toArray w eg (fun _ _ _ _ x y => closure_any x y _) hH hg (by simp; omega)
  change Calls Tryz.prog 98 _ _ _ at hcon
  rw [List.size_toArray] at hcon
  refine hcon.mono ?_
  rintro e w' ⟨rfl, d', n, os, hp, hs, rfl⟩
  have hsz : d'.size = l.length := by simpa using hp.1
  refine ⟨rfl, d'.toList, ?_, ?_, ?_, sort_world⟩
  · have h := hp.2.2
    rw [← hsz] at h
    have e1 : d'.extract 0 d'.size = d' := by simp
    have e2 : (l.toArray).extract 0 d'.size = l.toArray := by rw [hsz]; simp
    rw [e1, e2] at h
    exact h
  · rw [List.pairwise_iff_getElem]
    intro i j hi hj hij
    have hi' : i < d'.size := by simpa using hi
    have hj' : j < d'.size := by simpa using hj
    have h := hs i j (Nat.zero_le _) hij (by omega)
    rw [ltPg, getElem!_pos d' i hi', getElem!_pos d' j hj'] at h
    have h2 := of_decide_eq_false h
    simp only [Array.getElem_toList]
    omega
  · intro i hi
    have hi' : i < d'.size := by simpa using hi
    have hK : HoldsK encPg 2 (sortWorldK encPg 2 w g 0 n d' os) g 0 d' := by
      refine holdsK_grow encPg 2 _ os g 0 d' ?_ (holdsK_putRowK encPg 2 _ g 0 l.toArray d' hH (by simpa using hp.1))
      show g < (putRowK encPg 2 (Sort.ahead w n) g 0 d').heap.size
      have : (putRowK encPg 2 (Sort.ahead w n) g 0 d').heap.size = w.heap.size := size_putRow _ _ _ _ _
      omega
    have a := (hK.cell hi' (show 0 < 2 by omega)).1
    have b := (hK.cell hi' (show 1 < 2 by omega)).1
    rw [getElem!_pos d' i hi'] at a b
    simp only [Array.getElem_toList]
    exact ⟨a, b⟩
end Go.Proofs.YthdcjepkehifoaaGreat
