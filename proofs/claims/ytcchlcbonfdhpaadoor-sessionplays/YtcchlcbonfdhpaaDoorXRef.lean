/- Rows of the reference's table of sessions, over a contract of Sorted. -/
import Derived.Test.YtcchlcbonfdhpaaDoorXTx
import Derived.Test.YtcchlcbonfdhpaaDoorSRef2
namespace Go.Proofs.YtcchlcbonfdhpaaDoor
open Go.RowKit Go.Maps Go.Sort Go.Shelf
set_option linter.unusedVariables false
set_option maxRecDepth 20000
theorem below_one' {B : Nat} {w : World} (h : B ≤ w.heap.size) (x : Obj) : Below B w (w.alloc x) := (Below.refl _ w).alloc h _
theorem below_two' {B : Nat} {w : World} (h : B ≤ w.heap.size) (x y : Obj) : Below B w ((w.alloc x).alloc y) := ((Below.refl _ w).alloc h _).alloc (by simp; omega) _
theorem ne_rowT {w : World} {B n b t : Nat} {v : Value} {xs : List Value} {cur : Array Value} (hown : w.ownsRow B 67 2 v n xs) (hb : w.heap[b]? = some (.cells cur t (0, 0))) (ht : t ≠ 67) : some b ≠ v.ownBlock := by
  intro e
  rcases hown.2 with ⟨rfl, _⟩ | ⟨g, cap, cur', rfl, _, hg, _⟩
  · cases e
  · have : b = g := by simpa [Value.ownBlock] using e
    subst this
    rw [hb] at hg
    injection hg with hg
    injection hg with _ h _
    exact ht h
/-- rows so far, beside a box that holds a session -/
def RZB (n0 : Nat) (w0 : World) (v : Value) (rs : List RC) (m : List Rw) (bx : Nat) (c : Array Value) (V : World) : Prop := RZ n0 w0 v rs m V ∧ V.heap[bx]? = some (.cells c 42 (0, 0))
theorem RZB.on {n0 bx : Nat} {w0 V V' : World} {v : Value} {rs : List RC} {m : List Rw} {c : Array Value} (h : RZB n0 w0 v rs m bx c V) (hb : Below V.heap.size V V') (hn : n0 ≤ w0.heap.size) : RZB n0 w0 v rs m bx c V' := ⟨h.1.on hb hn, (hb.block bx (Array.getElem?_eq_some_iff.1 h.2).1).trans h.2⟩
theorem RZB.app {n0 bx : Nat} {w0 V V' : World} {v v' : Value} {rs : List RC} {m : List Rw} {c : Array Value} (h : RZB n0 w0 v rs m bx c V) (hn : n0 ≤ w0.heap.size) {r : RC} {x : Rw} (hx : RowIs V r x) (ho : V'.ownsRow n0 67 2 v' (rs ++ [r]).length (rcCells (rs ++ [r]))) (hg : V.grownBy V' v.ownBlock) : RZB n0 w0 v' (rs ++ [r]) (m ++ [x]) bx c V' :=
  ⟨h.1.app hn hx ho hg, (hg.block bx (Array.getElem?_eq_some_iff.1 h.2).1 (ne_rowT h.1.2.1 h.2 (by decide))).trans h.2⟩
theorem box5 {V : World} {bx : Nat} {a b c d e : Value} (h : V.heap[bx]? = some (.cells #[a, b, c, d, e] 42 (0, 0))) : V.cell? ⟨bx, 0, none⟩ = some a ∧ V.cell? ⟨bx, 1, none⟩ = some b ∧ V.cell? ⟨bx, 2, none⟩ = some c ∧ V.cell? ⟨bx, 3, none⟩ = some d ∧ V.cell? ⟨bx, 4, none⟩ = some e :=
  ⟨cell_of_row _ _ 0 _ _ _ h, cell_of_row _ _ 1 _ _ _ h, cell_of_row _ _ 2 _ _ _ h, cell_of_row _ _ 3 _ _ _ h, cell_of_row _ _ 4 _ _ _ h⟩
theorem c01_on {V V' : World} (hb : Below V.heap.size V V') {g : Nat} {b c : Value} (h : V.cell? ⟨g, 0, none⟩ = some b ∧ V.cell? ⟨g, 1, none⟩ = some c) : V'.cell? ⟨g, 0, none⟩ = some b ∧ V'.cell? ⟨g, 1, none⟩ = some c := ⟨cell_on hb h.1, cell_on hb h.2⟩
theorem TabOk.tm3 {T : Tab} (ok : TabOk T) : ∀ s ∈ T.l, (0 ≤ s.since ∧ s.since ≤ 1099511627776) ∧ 0 ≤ s.used ∧ s.used ≤ 1099511627776 := fun s hs => by
  have h1 := ok.tm s hs
  have h2 := ok.nt
  omega
set_option maxHeartbeats 12800000 in
theorem rRows_any {w : World} {B r : Nat} {a : Option Addr} {cap : Nat} {T : Tab} (h : RTab w B r a cap T) (ok : TabOk T) (hl : T.l.length ≤ 1000000)
    (hS : ∀ (V : World) (v : Value) (rs : List RC), V.ownsRow w.heap.size 67 2 v rs.length (rcCells rs) → RowsIs V rs (rowsM T) → Calls Tryd.prog 37 #[v] V (RowsPost V (rowsM T))) :
    Calls Tryd.prog 12 #[.pointer (some ⟨r, 0, none⟩)] w (RowsPost w (rowsM T)) := by
  have H := hid h
  have HSo := hid hS
  obtain ⟨nn, hnn⟩ : ∃ nn : Nat, T.next = nn := ⟨T.next.toNat, by have := ok.nx; omega⟩
  obtain ⟨nd, hnd⟩ : ∃ nd : Nat, T.noted = nd := ⟨T.noted.toNat, by have := ok.nt; omega⟩
  have b1 : nn ≤ 4611686018427387904 := by have := ok.nx; omega
  have b2 : nd ≤ 4611686018427387904 := by have := ok.nt; omega
  have hM : rowsM T = ⟨⟨#[35]⟩, [txt nn, txt nd]⟩ :: T.l.map sesRow := by unfold rowsM; rw [hnn, hnd]; rfl
  have HM := hid hM
  have z0 : Hid (w.cell? ⟨r, 0, none⟩ = some (.int .i64 (nn : Int)) ∧ w.cell? ⟨r, 1, none⟩ = some (.int .i64 (nd : Int))) := ⟨by rw [← hnn]; exact h.c0, by rw [← hnd]; exact h.c1⟩
  have HI1 := hid ok.id1
  have HTm := hid ok.tm3
  obtain ⟨N, hN⟩ : ∃ N, N = T.l.length := ⟨_, rfl⟩
  have HN := hid hN
  rw [← hN] at hl
  have BB : Hid (Below w.heap.size w w) := Below.refl _ _
  clear h ok hS hnn hnd hM hN
  go_enter Tryd.func12, Tryd.ntmps12
  go_wp2
  go_region_held3 (fun w9 => w9.cell? ⟨r, 0, none⟩ = some (.int .i64 (nn : Int)) ∧ w9.cell? ⟨r, 1, none⟩ = some (.int .i64 (nd : Int)))
    (first
      | exact z0.out
      | exact c01_on (below_one' (Nat.le_refl _) _) z0.out
      | exact c01_on (below_two' (Nat.le_refl _) _ _) z0.out)
    ((go_at_call 36; refine (rNum_any _ (by omega) _).mono ?_; rintro e w1 ⟨rfl, hb1⟩; have z0 := hid (c01_on hb1 z0.out); have BB := hid (show Below w.heap.size w w1 by first | exact Below.on' BB.out hb1 | exact Below.on' BB.out (undrew1 hb1)); clear hb1))
  all_goals
    obtain ⟨W3, hW3⟩ : ∃ W3, W3 = (w1.alloc (.cells #[.string (txt nn), .string (txt nd)] 9)).alloc (.cells #[.string ⟨#[35]⟩, .slice (some ⟨w1.heap.size, 0, none⟩) 2 2] 67) := ⟨_, rfl⟩
    rw [← hW3]
    have R3 : Hid (RZ w.heap.size w (.slice (some ⟨w1.heap.size + 1, 0, none⟩) 1 1) [RC.mk ⟨#[35]⟩ (some ⟨w1.heap.size, 0, none⟩) 2 2] [Rw.mk ⟨#[35]⟩ [txt nn, txt nd]] W3) := by
      show RZ _ _ _ _ _ _
      have ho := own_new1 (w1.alloc (.cells #[.string (txt nn), .string (txt nd)] 9)) ⟨#[35]⟩ (some ⟨w1.heap.size, 0, none⟩) 2 2
      have hsz : (w1.alloc (.cells #[.string (txt nn), .string (txt nd)] 9)).heap.size = w1.heap.size + 1 := by simp
      rw [hsz] at ho
      rw [hW3]
      exact ⟨BB.out.trans (below_two' BB.out.size _ _), ho.mono (Nat.le_trans BB.out.size (by omega)), ⟨rfl, rfl, ⟨_, _, rfl, ((MapKept.heap_alloc _ _).2 _ (by simp)).trans (MapKept.heap_alloc w1 _).1, rfl⟩⟩, trivial⟩
    clear hW3
  go_wp2
  go_loopw [3, 4] (fun v i wr => ∃ (k : Nat) (rs : List RC), k ≤ N ∧ i = .int .i64 k ∧ RZ w.heap.size w v rs ([Rw.mk ⟨#[35]⟩ [txt nn, txt nd]] ++ (T.l.take k).map sesRow) wr)
    (fun _ i _ => N - (intOf i).toNat)
  case atStart => exact ⟨0, _, Nat.zero_le _, rfl, R3.out⟩
  case round =>
    obtain ⟨k, rs, hk, rfl, hz⟩ := hrel
    have Z0 := hid hz
    have hrk : rs.length = k + 1 := by
      have h1 := hz.2.2.length
      rw [List.length_append, List.length_map, List.length_take] at h1
      have := HN.out
      simp at h1
      omega
    have Hrk := hid hrk
    have HR := hid (H.out.below hz.1)
    have c2 := HR.out.c2
    rw [← HN.out] at c2
    clear hz hrk
    by_cases hlt : k < N
    · have g1 : (k : Int) < (N : Int) := by omega
      have g0 : (0 : Int) ≤ (k : Int) := by omega
      have he : T.l[k]? = some (T.l[k]'(by have := HN.out; omega)) := List.getElem?_eq_getElem _
      have hmem : T.l[k]'(by have := HN.out; omega) ∈ T.l := List.getElem_mem _
      generalize T.l[k]'(by have := HN.out; omega) = s at *
      obtain ⟨_, b, o', ea, d0, d1, d2, d3, d4⟩ := HR.out.sin.at he
      subst ea
      have Htk := hid (take_snoc_get he)
      have hi := HI1.out s hmem
      have hsm := HTm.out s hmem
      obtain ⟨fa, ft, fu, fs, fe⟩ := s
      dsimp only at hi hsm d0 d1 d2 d3 d4
      obtain ⟨ni, rfl⟩ : ∃ ni : Nat, fa = ni := ⟨fa.toNat, by omega⟩
      obtain ⟨ms, rfl⟩ : ∃ ms : Nat, fs = ms := ⟨fs.toNat, by omega⟩
      obtain ⟨mu, rfl⟩ : ∃ mu : Nat, fe = mu := ⟨fe.toNat, by omega⟩
      have b3 : ni ≤ 4611686018427387904 := by omega
      have b4 : ms ≤ 4611686018427387904 := by omega
      have b5 : mu ≤ 4611686018427387904 := by omega
      clear he hmem hi hsm
      go_wp2_with fail
      obtain ⟨W5, hW5⟩ : ∃ W5, W5 = wr.alloc (.cells #[.int .i64 (ni : Int), .string ft, .string fu, .int .i64 (ms : Int), .int .i64 (mu : Int)] 42) := ⟨_, rfl⟩
      rw [← hW5]
      have z : Hid (RZB w.heap.size w u3 rs ([Rw.mk ⟨#[35]⟩ [txt nn, txt nd]] ++ (T.l.take k).map sesRow) wr.heap.size #[.int .i64 (ni : Int), .string ft, .string fu, .int .i64 (ms : Int), .int .i64 (mu : Int)] W5.drew) := by
        show RZB _ _ _ _ _ _ _ _
        rw [hW5]
        exact RZB.on ⟨Z0.out.on (below_one' (Nat.le_refl _) _) (Nat.le_refl _), (MapKept.heap_alloc wr _).1⟩ (below_drewN _ _ 1) (Nat.le_refl _)
      obtain ⟨bx, hbx⟩ : ∃ bx, bx = wr.heap.size := ⟨_, rfl⟩
      rw [← hbx] at z ⊢
      clear hW5 hbx d0 d1 d2 d3 d4 c2
      go_region_held3 (fun w9 => w9.cell? ⟨bx, 0, none⟩ = some (.int .i64 (ni : Int)) ∧ w9.cell? ⟨bx, 1, none⟩ = some (.string ft) ∧ w9.cell? ⟨bx, 2, none⟩ = some (.string fu) ∧ w9.cell? ⟨bx, 3, none⟩ = some (.int .i64 (ms : Int)) ∧ w9.cell? ⟨bx, 4, none⟩ = some (.int .i64 (mu : Int)))
        (first
          | exact box5 zz.out.2
          | exact box5 z.out.2
          | exact box5 (z.out.on (below_one' (Nat.le_refl _) _) (Nat.le_refl _)).2
          | exact box5 (z.out.on (below_two' (Nat.le_refl _) _ _) (Nat.le_refl _)).2)
        (first
          | (go_at_call 36; refine (rNum_any _ (by omega) _).mono ?_; rintro e w1 ⟨rfl, hb1⟩; have z := hid (z.out.on hb1 (Nat.le_refl _)); clear hb1)
          | ((with_reducible (show ite _ (Oper.wp _ { dst := some 56, op := _, type := _, pos := _, after := _, guard := _ } _ _ _ _) _)); rw [if_pos (by simp [Region.wanted])]; refine app_rowR (.tmp 37) (.tmp 55) rfl (w1.alloc (.cells #[.string ft, .string fu, .string (txt ms), .string (txt mu)] 9)) _ _ _ _ rfl w.heap.size u3 rs rfl (z.out.on (below_one' (Nat.le_refl _) _) (Nat.le_refl _)).1.2.1 (by rw [show (w1.alloc (.cells #[.string ft, .string fu, .string (txt ms), .string (txt mu)] 9)).heap.size = w1.heap.size + 1 by simp]; rfl) (by have := Hrk.out; omega) (z.out.on (below_one' (Nat.le_refl _) _) (Nat.le_refl _)).1.1.size ?_; intro v' w' ho' hg'; have zz := hid ((z.out.on (below_one' (Nat.le_refl _) _) (Nat.le_refl _)).app (Nat.le_refl _) (x := sesRow ⟨(ni : Int), ft, fu, (ms : Int), (mu : Int)⟩) ⟨rfl, rfl, ⟨_, _, rfl, (MapKept.heap_alloc w1 _).1, rfl⟩⟩ ho' hg'); clear ho' hg'))
      all_goals go_wp2
      all_goals go_roundw
      all_goals first
        | exact ⟨k + 1, _, by omega, by go_num, by rw [Htk.out, List.map_append, ← List.append_assoc]; exact zz.out.1⟩
        | (simp [intOf]; omega)
    · have e : k = N := by omega
      subst e
      have g1 : ¬ (k : Int) < (k : Int) := by omega
      have h3 := Z0.out.2.2
      rw [List.take_of_length_le (by have := HN.out; omega)] at h3
      have HS2 := hid (HSo.out wr u3 rs Z0.out.2.1 (by rw [HM.out]; exact h3))
      clear h3
      go_wp2_with (go_at_call 37; refine HS2.out.mono ?_; rintro e w6 ⟨v6, r6, rfl, ho6, hi6, hb6⟩)
      go_ret
      exact ⟨_, r6, rfl, ho6.mono Z0.out.1.size, hi6, Below.on' Z0.out.1 hb6⟩
end Go.Proofs.YtcchlcbonfdhpaaDoor
