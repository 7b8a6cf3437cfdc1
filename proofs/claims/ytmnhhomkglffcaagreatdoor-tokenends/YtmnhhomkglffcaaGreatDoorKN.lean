/- TokenNarrow and TokenLasts, walked. -/
import Derived.Test.YtmnhhomkglffcaaGreatDoorKD3
namespace Go.Proofs.YtmnhhomkglffcaaGreatDoor
open Go.RowKit Go.Maps Go.Sort Go.Shelf
set_option linter.unusedVariables false
set_option maxRecDepth 20000

/-- deeds that lie in a row of the world -/
structure KDs (w : World) (a : Option Addr) (l : List KDeed) : Prop where
  cells : ∀ i (h : i < l.length), ∃ b o, a = some ⟨b, o, none⟩ ∧ w.cell? ⟨b, o + i * 7, none⟩ = some (.int .i64 l[i].kind) ∧ w.cell? ⟨b, o + i * 7 + 1, none⟩ = some (.int .i64 l[i].id) ∧ w.cell? ⟨b, o + i * 7 + 2, none⟩ = some (.int .i64 l[i].num) ∧ w.cell? ⟨b, o + i * 7 + 3, none⟩ = some (.int .i64 l[i].now) ∧ w.cell? ⟨b, o + i * 7 + 4, none⟩ = some (.string l[i].cli) ∧ w.cell? ⟨b, o + i * 7 + 5, none⟩ = some (.int .u8 l[i].sco) ∧ w.cell? ⟨b, o + i * 7 + 6, none⟩ = some (.slice l[i].sa l[i].zs.length l[i].sc)
  ok : ∀ x ∈ l, DeedOk w w.heap.size x
  length : l.length ≤ maxLen
theorem KDs.at {w w' : World} {a : Option Addr} {l : List KDeed} (h : KDs w a l) (hb : Below w.heap.size w w') {k : Nat} {x : KDeed} (hx : l[k]? = some x) : ∃ b o, a = some ⟨b, o, none⟩ ∧ w'.cell? ⟨b, o + k * 7, none⟩ = some (.int .i64 x.kind) ∧ w'.cell? ⟨b, o + k * 7 + 1, none⟩ = some (.int .i64 x.id) ∧ w'.cell? ⟨b, o + k * 7 + 2, none⟩ = some (.int .i64 x.num) ∧ w'.cell? ⟨b, o + k * 7 + 3, none⟩ = some (.int .i64 x.now) ∧ w'.cell? ⟨b, o + k * 7 + 4, none⟩ = some (.string x.cli) ∧ w'.cell? ⟨b, o + k * 7 + 5, none⟩ = some (.int .u8 x.sco) ∧ w'.cell? ⟨b, o + k * 7 + 6, none⟩ = some (.slice x.sa x.zs.length x.sc) ∧ DeedOk w' w.heap.size x := by
  obtain ⟨h1, h2⟩ := List.getElem?_eq_some_iff.1 hx
  obtain ⟨b, o, e, c0, c1, c2, c3, c4, c5, c6⟩ := h.cells k h1
  rw [h2] at c0 c1 c2 c3 c4 c5 c6
  have q := h.ok x (List.mem_of_getElem? hx)
  have f : ∀ {j : Nat} {v : Value}, w.cell? ⟨b, j, none⟩ = some v → w'.cell? ⟨b, j, none⟩ = some v := fun hc => (hb.cell (World.block_lt_of_cell? _ _ hc)).trans hc
  exact ⟨b, o, e, f c0, f c1, f c2, f c3, f c4, f c5, f c6, q.hc, q.hs, q.hi.below hb, q.hib, q.hl⟩
theorem RSt.mono {w : World} {B B' r n : Nat} (h : RSt w B r n) (hB : B' ≤ B) : RSt w B' r n := by
  obtain ⟨a, c, a', c', U, h1, h2, h3⟩ := h
  exact ⟨a, c, a', c', U, h1.mono hB, h2, h3⟩
theorem duo_start {w w1 w2 w3 : World} {p mf mt r : Nat} (h1 : StoAt w1 w.heap.size p mf mt 0 0 sto0) (b1 : Below w.heap.size w w1) (h2 : RSt w2 w1.heap.size r 0) (b2 : Below w1.heap.size w1 w2) (b3 : Below w2.heap.size w2 w3) : Duo w3 w.heap.size p mf mt r 0 sto0 ∧ Below w.heap.size w w3 := by
  refine ⟨⟨⟨0, 0, Nat.le_refl _, Nat.le_refl _, (h1.below b2).below b3⟩, sto0_ok, Nat.le_refl _, Nat.le_refl _, (h2.mono b1.size).below b3⟩, ?_⟩
  have k2 := b1.trans (b2.mono b1.size)
  exact k2.trans (b3.mono k2.size)
/-- what the loop over deeds keeps -/
def Did (w : World) (p mf mt r : Nat) (k : Nat) (wr : World) : Prop := ∃ T, Duo wr w.heap.size p mf mt r (2 * k) T ∧ Below w.heap.size w wr
theorem dout_below {w wr w' : World} {p mf mt r n : Nat} {T : Sto} (hb : Below w.heap.size w wr) (hd : Duo wr w.heap.size p mf mt r n T) (o : Out (DOut p mf mt r) wr w') : Below w.heap.size w w' := by
  have l := hd.lts
  exact hb.trans (o.below hb.size (fun k hk => by unfold DOut at hk; omega))
theorem and_nar {a b : Int} (ha : 0 ≤ a ∧ a ≤ 255) (hb : 0 ≤ b ∧ b ≤ 255) (h : nar a b) : (bits BinOp.and IntKind.u8 a b == a) = true := by
  have := and_bits a.toNat (by omega) b.toNat (by omega)
  rw [Int.toNat_of_nonneg ha.1, Int.toNat_of_nonneg hb.1] at this
  rw [this]
  unfold nar at h
  rw [h, Int.toNat_of_nonneg ha.1]
  simp

theorem kFind_in {next : Int} {l : List Tok.Sess} (hup : l.Pairwise (fun a b => a.id < b.id)) {s : Tok.Sess} (hs : s ∈ l) (hx : 1 ≤ s.id ∧ s.id < next) : kFind next l s.id = (s, 0) := by
  unfold kFind
  rw [if_neg (by omega)]
  cases hfd : l.find? (fun t => t.id == s.id) with
  | none => have := List.find?_eq_none.1 hfd s hs; simp at this
  | some t =>
    have h1 := List.mem_of_find?_eq_some hfd
    have h2 : t.id = s.id := by have := List.find?_some hfd; simpa using this
    have : t = s := Nums1.eq (num := Tok.Sess.id) (hup.imp (fun h => by omega)) h1 hs h2
    rw [this]
/-- Access of a token that is there, at a time that is one -/
theorem acc_at {T : Sto} (ok : StoOk T) {t : Tok.Sess} (ht : t ∈ T.ts) (now : Int) (hn : 0 ≤ now ∧ now ≤ 1099511627776) : tAccess T t.id now = if now < T.noted then (Tok.sess0, 9) else if now < t.unt then (t, 0) else (Tok.sess0, 12) := by
  have te : timeErr now T.noted = if now < T.noted then 9 else 0 := by unfold timeErr; rw [if_neg (by omega)]
  unfold tAccess
  rw [te, kFind_in ok.upt ht (ok.idt t ht)]
  by_cases h : now < T.noted
  · simp [h]
  · by_cases h2 : now < t.unt <;> simp [h, h2]
end Go.Proofs.YtmnhhomkglffcaaGreatDoor
