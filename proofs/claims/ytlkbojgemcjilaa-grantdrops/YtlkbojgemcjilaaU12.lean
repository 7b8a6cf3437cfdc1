/- Grants: New; a store with a client more. -/
import Derived.Test.YtlkbojgemcjilaaU11
namespace Go.Proofs.Ytlkbojgemcjilaa
open Go.RowKit Go.Maps
set_option linter.unusedVariables false
set_option maxRecDepth 20000
theorem CRel.put {V : DataW Value} {L : List Reg} (h : CRel V L) (hz : ∀ p ∈ L, p.c.t.size ≤ maxLen ∧ p.c.n.size ≤ maxLen) (c : Cl) (ht : c.t.size ≤ maxLen) (hn : c.n.size ≤ maxLen) (hf : fC L c.t c.n = none) (r m : Nat) :
    CRel (V.put (keyP c.t c.n) (.held (.pointer (some ⟨r, 0, none⟩)))) (L ++ [⟨c, r, m⟩]) := by
  have hno : ∀ p ∈ L, isC c.t c.n p.c = false := fun p hp => by
    have := List.find?_eq_none.1 hf p hp
    simpa using this
  refine ⟨h.tidy.put (keyP_lit _ _) _, fun t' u' ht' hu' => ?_, fun p hp z => ?_, ?_⟩
  · rw [List.any_append, List.any_cons, List.any_nil, Bool.or_false]
    by_cases e : (t', u') = (c.t, c.n)
    · obtain ⟨rfl, rfl⟩ := Prod.mk.inj e
      rw [has_put_same h.tidy.isMap (keyP_lit _ _), isC_iff.2 ⟨rfl, rfl⟩, Bool.or_true]
    · rw [has_put_other (fun e' => e (keyP_inj ht' hu' ht hn e')), h.has _ _ ht' hu']
      have h1 : isC t' u' c = false := by
        cases h3 : isC t' u' c with
        | false => rfl
        | true =>
          obtain ⟨e1, e2⟩ := isC_iff.1 h3
          exact absurd (by rw [e1, e2]) e
      rw [h1, Bool.or_false]
  · rcases List.mem_append.1 hp with hp | hp
    · obtain ⟨z1, z2⟩ := hz p hp
      have hne : keyP p.c.t p.c.n ≠ keyP c.t c.n := fun e => by
        obtain ⟨e1, e2⟩ := Prod.mk.inj (keyP_inj z1 z2 ht hn e)
        have := hno p hp
        rw [isC_iff.2 ⟨e1, e2⟩] at this
        cases this
      rw [atKey_put_other hne, h.at' p hp]
    · obtain rfl := List.mem_singleton.1 hp
      rw [atKey_put_same h.tidy.isMap (keyP_lit _ _)]
  · rw [size_put h.tidy, h.has _ _ ht hn, h.size, List.length_append]
    have : (L.any fun p => isC c.t c.n p.c) = false := by
      rw [List.any_eq_false]
      intro p hp
      rw [hno p hp]
      decide
    rw [this]
    rfl
def GS.addC (s : GS) (c : Cl) : GS := ⟨s.cs ++ [c], s.al⟩
theorem fC_none_cs {w : World} {B g mc d : Nat} {L : List Reg} {s : GS} (h : SAt w B g mc L s d) {t n : ByteArray} (hf : fC L t n = none) : ∀ c ∈ s.cs, ¬ (c.t = t ∧ c.n = n) := fun c hc e => by
  rw [← h.cs] at hc
  obtain ⟨p, hp, rfl⟩ := List.mem_map.1 hc
  have := List.find?_eq_none.1 hf p hp
  rw [isC_iff.2 e] at this
  exact absurd rfl this
theorem GS.Ok.addC {s : GS} (h : s.Ok) (c : Cl) (h1 : okN c.t = true) (h2 : okN c.n = true) (h3 : c.r.size ≤ 24) (h4 : c.sc ≤ 255) (h5 : ∀ x ∈ s.cs, ¬ (x.t = c.t ∧ x.n = c.n)) : (s.addC c).Ok := by
  refine ⟨fun x hx => ?_, ?_, fun a ha => ?_, h.akeys⟩
  · rcases List.mem_append.1 hx with hx | hx
    · exact h.names x hx
    · obtain rfl := List.mem_singleton.1 hx
      exact ⟨h1, h2, h3, h4⟩
  · refine List.pairwise_append.2 ⟨h.keys, List.pairwise_singleton _ _, fun a ha b hb => ?_⟩
    obtain rfl := List.mem_singleton.1 hb
    exact h5 a ha
  · obtain ⟨a1, a2, a3, x, hx, a4⟩ := h.anames a ha
    exact ⟨a1, a2, a3, x, List.mem_append_left _ hx, a4⟩
section
variable {w w' : World} {B g mc d : Nat} {L : List Reg} {s : GS}
theorem map_new_ne {H : Type} {k : TypeId} {R : Value → Option (DataW H × List MemPlace)} {b n : Nat} {D : DataW H} (h : w.ownsMap Try.prog k R b n D) : b < w.heap.size := by
  obtain ⟨es, clock, hb⟩ := mapObj h
  exact heap_lt hb
/-- a client more: its block and its map lie behind, and the map of clients has been turned -/
theorem SAt.addC {w1 : World} (h : SAt w B g mc L s d) (c : Cl) (hok : (s.addC c).Ok) (hf : fC L c.t c.n = none) (r m k : Nat) (V : DataW Value) (hk : k + 1 ≤ d + 1) (hV : CRel V L) (hb : Below w.heap.size w w1)
    (hm0 : w1.ownsMap Try.prog 74 RV mc k V) (hm : w'.ownsMap Try.prog 74 RV mc (k + 1) (V.put (keyP c.t c.n) (.held (.pointer (some ⟨r, 0, none⟩))))) (hg : w1.grownBy w' (some mc))
    (hr : w1.heap[r]? = some (.cells #[.string c.r, .int .u8 (c.sc : Int), .map (some m)] 71 (0, 0))) (hmm : w1.ownsMap Try.prog 9 (plainElem Try.prog 25) m 0 (.map [] : DataW Unit)) (hrw : w.heap.size ≤ r) (hmw : w.heap.size ≤ m) (hB : B ≤ w.heap.size) :
    SAt w' B g mc (L ++ [⟨c, r, m⟩]) (s.addC c) (d + 1) := by
  have h1 := h.below hb
  have hmc : mc < w.heap.size := by
    obtain ⟨_, _, h9, _⟩ := h.cm
    exact map_new_ne h9
  have hall : ∀ p ∈ L, p.r < w.heap.size ∧ p.m < w.heap.size := fun p hp => by
    obtain ⟨_, _, h3, _, _, h4, _⟩ := h.regs p hp
    exact ⟨heap_lt h3, map_new_ne h4⟩
  have hok1 := hok.names c (List.mem_append_right _ (List.mem_singleton.2 rfl))
  have hs1 := okN_len hok1.1
  have hs2 := okN_len hok1.2.1
  refine ⟨hok, ?_, ?_, ⟨k + 1, _, hm, hk, hV.put (fun p hp => ?_) c (by unfold maxLen; omega) (by unfold maxLen; omega) hf r m⟩, fun p hp => ?_, ?_, ?_, h.bg, h.bm⟩
  · rw [List.map_append, h.cs]
    rfl
  · exact (hg.block g h1.lt (fun e => cells_ne_map hm0 h1.obj (Option.some.inj e))).trans h1.obj
  · obtain ⟨z1, z2⟩ := h.sizes hp
    exact ⟨by unfold maxLen; omega, by unfold maxLen; omega⟩
  · rcases List.mem_append.1 hp with hp | hp
    · obtain ⟨k1, k2, k3, n9, D9, k4, k5, k6⟩ := (h1.regs p hp).kept hg (cells_ne_map hm0 (h1.regs p hp).2.2.1) (h.m_ne hp)
      exact ⟨k1, k2, k3, n9, D9, k4, by omega, k6⟩
    · obtain rfl := List.mem_singleton.1 hp
      refine ⟨by show B ≤ r; omega, by show B ≤ m; omega, ?_, 0, .map [], hmm.kept hg (fun e => ?_), by omega, ?_⟩
      · exact (hg.block r (heap_lt hr) (fun e => cells_ne_map hm0 hr (Option.some.inj e))).trans hr
      · have := Option.some.inj e
        omega
      · have he : (s.addC c).al.filter (ofC c.t c.n) = [] := by
          rw [List.filter_eq_nil_iff]
          intro a ha h9
          obtain ⟨e1, e2⟩ := ofC_iff.1 h9
          obtain ⟨_, _, _, x, hx, e3, e4, _⟩ := h.ok.anames a ha
          exact fC_none_cs h hf x hx ⟨e3.trans e1, e4.trans e2⟩
        show ARel (.map []) ((s.addC c).al.filter (ofC c.t c.n))
        rw [he]
        exact ⟨tidy_empty, fun _ => rfl, (fun a ha => nomatch ha), rfl⟩
  · rw [List.map_append]
    refine List.nodup_append.2 ⟨h.ndr, by simp, fun a ha b hb e => ?_⟩
    obtain ⟨p, hp, rfl⟩ := List.mem_map.1 ha
    simp at hb
    have := (hall p hp).1
    omega
  · rw [List.map_append, ← List.cons_append]
    refine List.nodup_append.2 ⟨h.ndm, by simp, fun a ha b hb e => ?_⟩
    simp at hb
    rcases List.mem_cons.1 ha with rfl | ha
    · omega
    · obtain ⟨p, hp, rfl⟩ := List.mem_map.1 ha
      have := (hall p hp).2
      omega
end
end Go.Proofs.Ytlkbojgemcjilaa
