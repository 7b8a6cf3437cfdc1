/- Questions to a log over a disk that was new, and to the pages that they tell. -/
import Derived.Test.YthdcjepkehifoaaGreatWDo2
import Derived.Test.YthdcjepkehifoaaGreatWAll
import Derived.Test.YthdcjepkehifoaaGreatWDds
namespace Go.Proofs.YthdcjepkehifoaaGreat
open Go.RowKit Go.Maps
set_option linter.unusedVariables false
set_option maxRecDepth 20000

theorem WImg.keep {w w' : World} {B : Nat} {v : Value} {ps : List (List UInt8)} (h : WImg w B v ps) (hk : ∀ j, B ≤ j → j < w.heap.size → w'.heap[j]? = w.heap[j]?) : WImg w' B v ps := by
  obtain ⟨vs, h, ha⟩ := h
  exact ⟨vs, ⟨own_keep h.row fun j e => by have := h.row.lt j e; exact hk j this.1 this.2, h.vlen, fun i hi hi' => own_keep (h.rows i hi hi') fun j e => by have := (h.rows i hi hi').lt j e; exact hk j this.1 this.2⟩, ha⟩
theorem WImg.below {w w' : World} {B : Nat} {v : Value} {ps : List (List UInt8)} (h : WImg w B v ps) (hb : Below w.heap.size w w') : WImg w' B v ps := h.keep fun j _ hj => hb.block j hj
theorem wimg_slice {w : World} {B : Nat} {v : Value} {ps : List (List UInt8)} (h : WImg w B v ps) (h0 : 0 < ps.length) : ∃ b c, v = .slice (some ⟨b, 0, none⟩) ps.length c := by
  obtain ⟨vs, h, _⟩ := h
  rcases h.row.2 with ⟨_, e⟩ | ⟨g, c, _, e, _⟩
  · omega
  · exact ⟨g, c, e⟩
theorem wsame {w : World} {B1 B2 : Nat} {v1 v2 : Value} {ps : List (List UInt8)} (h1 : WImg w B1 v1 ps) (h2 : WImg w B2 v2 ps) (h0 : 0 < ps.length) (hl : ps.length ≤ 1024) (hf : ∀ p ∈ ps, p.length = 256) :
    Calls Tryz.prog 35 #[v1, v2] w fun e w' => e = .returned (.bool true) ∧ Below w.heap.size w w' := by
  obtain ⟨b1, c1, rfl⟩ := wimg_slice h1 h0
  obtain ⟨b2, c2, rfl⟩ := wimg_slice h2 h0
  obtain ⟨vs1, h1, _⟩ := h1
  obtain ⟨vs2, h2, _⟩ := h2
  exact sameAll_eq rfl h1 h2 hl (fun p hp => by rw [hf p hp]; omega)

theorem DiskAt.keepB {w w' : World} {B d g cap : Nat} {v : Value} {ps : List (List UInt8)} {ch : List (Nat × List UInt8)} (h : DiskAt w B d g cap v ps ch) (hk : ∀ j, B ≤ j → j < w.heap.size → w'.heap[j]? = w.heap[j]?) : DiskAt w' B d g cap v ps ch :=
  h.keep (hk d h.bd h.lts.1) (hk g (h.pages.lt _ rfl).1 h.lts.2.1) (fun j e => hk j (h.chs.lt j e).1 (h.chs.lt j e).2)
/-- all pages of a log -/
def pagesL (S P : Nat) (gs : List (List Nat)) (ls : List (Nat × List UInt8)) : List (List UInt8) := (List.range P).map (pageNow (psOf (fresh S P) ls) S gs)
theorem pagesL_len (S P : Nat) (gs : List (List Nat)) (ls : List (Nat × List UInt8)) : (pagesL S P gs ls).length = P := by simp [pagesL]
theorem pagesL_256 {w : World} {B S P k l G : Nat} {gs : List (List Nat)} {ls : List (Nat × List UInt8)} (h : LogAt w B S P k l G gs ls) : ∀ p ∈ pagesL S P gs ls, p.length = 256 := fun p hp => by
  obtain ⟨d, g, c, m, n, v, h⟩ := h
  obtain ⟨q, hq, rfl⟩ := List.mem_map.1 hp
  exact pageNow_length h.inv q (List.mem_range.1 hq)
theorem a_all {w : World} {B S P k l G : Nat} {gs : List (List Nat)} {ls : List (Nat × List UInt8)} (h : LogAt w B S P k l G gs ls) (hP : P ≤ 99) :
    Calls Tryz.prog 38 #[.pointer (some ⟨l, 0, none⟩)] w fun e w' => ∃ v, e = .returned v ∧ WImg w' w.heap.size v (pagesL S P gs ls) ∧ Below w.heap.size w w' := by
  obtain ⟨d, g, c, m, n, v, h⟩ := h
  exact wall_log h.mem h.inv hP
theorem a_used {w : World} {B S P k l G : Nat} {gs : List (List Nat)} {ls : List (Nat × List UInt8)} (h : LogAt w B S P k l G gs ls) :
    Calls Tryz.prog 19 #[.pointer (some ⟨l, 0, none⟩)] w fun e w' => e = .returned (.int .i64 (usedOf gs : Int)) ∧ w' = w := by
  obtain ⟨d, g, c, m, n, v, h⟩ := h
  exact used_any h.mem
theorem a_groups {w : World} {B S P k l G : Nat} {gs : List (List Nat)} {ls : List (Nat × List UInt8)} (h : LogAt w B S P k l G gs ls) (hk : k ≤ 1000) :
    Calls Tryz.prog 23 #[.pointer (some ⟨l, 0, none⟩)] w fun e w' => e = .returned (.int .i64 (G : Int)) ∧ w' = w := by
  obtain ⟨d, g, c, m, n, v, h⟩ := h
  have := h.gr
  exact groups_any h.mem (by omega)
theorem a_free {w : World} {B S P k l G : Nat} {gs : List (List Nat)} {ls : List (Nat × List UInt8)} (h : LogAt w B S P k l G gs ls) :
    Calls Tryz.prog 21 #[.pointer (some ⟨l, 0, none⟩)] w fun e w' => e = .returned (.int .i64 ((S : Int) - (usedOf gs : Int))) ∧ Below w.heap.size w w' := by
  obtain ⟨d, g, c, m, n, v, h⟩ := h
  have h1 := h.inv.len
  have h2 := h.inv.most
  refine (free_any h.mem h.inv.used (by omega)).mono ?_
  rintro e w' ⟨rfl, n, rfl⟩
  exact ⟨rfl, below_drewN _ _ _⟩
theorem touched_nil (P : Nat) : touchedOf P [] = [] := by simp [touchedOf, plOf_nil]
/-- a checkpoint changes no page -/
theorem pages_cp {w : World} {B S P k l G : Nat} {gs : List (List Nat)} {ls : List (Nat × List UInt8)} (h : LogAt w B S P k l G gs ls) (hk : k ≤ 1000) : pagesL S P [] (ls ++ cpWs S P G gs ls) = pagesL S P gs ls := by
  obtain ⟨d, g, c, m, n, v, h⟩ := h
  have hg := h.gr
  unfold cpWs
  by_cases hu : usedOf gs = 0
  · rw [if_pos hu, List.append_nil, gs_nil hu]
  · rw [if_neg hu]
    unfold pagesL
    rw [psOf_append]
    apply List.map_congr_left
    intro p hp
    exact (h.inv.check (by omega)).2 p (List.mem_range.1 hp)
/-- a deed of the argument, as do takes it -/
theorem deed_at {w wr : World} {a : Option Addr} {l : List Dd} (hl : DdsAt w a l) (hb : Below w.heap.size w wr) (k : Nat) (hk : k < l.length) : ∃ b o, a = some ⟨b, o, none⟩ ∧ wr.cell? ⟨b, o + k * 4, none⟩ = some (.bool l[k].ck) ∧ wr.cell? ⟨b, o + k * 4 + 1, none⟩ = some (.bool l[k].sh) ∧ wr.cell? ⟨b, o + k * 4 + 2, none⟩ = some (.slice l[k].a l[k].q.length l[k].c) ∧ wr.cell? ⟨b, o + k * 4 + 3, none⟩ = some (.int .u8 (l[k].y.toNat : Int)) ∧ ∀ w', Below w.heap.size wr w' → IntsAt w' l[k].a l[k].q := by
  have hD := hl.keep (w' := wr) (fun j hj => hb.block j hj)
  obtain ⟨b, o, e, c0, c1, c2, c3, _⟩ := hD k hk
  refine ⟨b, o, e, c0, c1, c2, c3, fun w' hb' => ?_⟩
  obtain ⟨_, _, _, _, _, _, _, h⟩ := (hl.keep (w' := w') (fun j hj => (hb'.block j hj).trans (hb.block j hj))) k hk
  exact h
/-- between two rounds -/
def VRel (w : World) (S la m k : Nat) (wr : World) : Prop := ∃ G gs ls, Duo wr w.heap.size S 9 k la m G gs ls ∧ Below w.heap.size w wr
end Go.Proofs.YthdcjepkehifoaaGreat
