/- Each deed on both trees, by contracts over one state. -/
import Derived.Test.YtdglmoikgmlaaaaDoorJP1
namespace Go.Proofs.YtdglmoikgmlaaaaDoor
open Go.RowKit Go.Maps
set_option linter.unusedVariables false
set_option maxRecDepth 20000
theorem same_self (x : List UInt8) (a b : Option Addr) (ca cb : Nat) (w : World) (hx : Bytes w a x) (hy : Bytes w b x) (lx : x.length ≤ 140737488351232) :
    Calls Tryd.prog 15 #[.slice a x.length ca, .slice b x.length cb] w fun e w' => e = .returned (.bool true) ∧ Below w.heap.size w w' := by
  have h := sameBytes_any x x a b ca cb w hx hy lx lx
  rw [decide_eq_true rfl] at h
  exact h
/-- both trees, a deed x, the bytes that were sealed last, the bytes of the deed -/
structure St (w0 w : World) (B g mv mg gr : Nat) (root : List UInt8) (st sr : TS) (d x : Nat) (q : KD) (vl : Value) (L : List UInt8) (vb : Value) (bl : List UInt8) : Prop where
  k : KP w0 w B g mv mg gr root st sr d
  x : XAt w x q
  l : w.ownsRow B 5 1 vl L.length (cellsOf L)
  b : w.ownsRow B 5 1 vb bl.length (cellsOf bl)
section
variable {w0 w w' : World} {B g mv mg gr : Nat} {root : List UInt8} {s st st' sr sr' : TS} {d d' x : Nat} {q : KD} {vl : Value} {L : List UInt8} {vb : Value} {bl : List UInt8}
theorem St.below (h : St w0 w B g mv mg gr root st sr d x q vl L vb bl) (hb : Below w.heap.size w w') : St w0 w' B g mv mg gr root st sr d x q vl L vb bl := ⟨h.k.below hb, h.x.below hb, own_on h.l hb, own_on h.b hb⟩
theorem St.prog (h : St w0 w B g mv mg gr root st sr d x q vl L vb bl) (t : TreeM w' B g mv mg root st' d') (o : OutJ (Mine g mv mg) w w') : St w0 w' B g mv mg gr root st' sr d' x q vl L vb bl := ⟨h.k.prog t o, h.x.prog h.k o, h.k.bprog h.l o, h.k.bprog h.b o⟩
theorem St.ref (h : St w0 w B g mv mg gr root st sr d x q vl L vb bl) (r : RT w' B gr root sr') (ok : sr'.Ok) (o : OutJ (RM w B gr) w w') : St w0 w' B g mv mg gr root st sr' d x q vl L vb bl := ⟨h.k.ref r ok o, h.x.ref h.k o, h.k.bref h.l o, h.k.bref h.b o⟩
theorem St.drew (h : St w0 w B g mv mg gr root st sr d x q vl L vb bl) : St w0 w.drew B g mv mg gr root st sr d x q vl L vb bl := h.below (below_drewN _ _ 1)
theorem St.bytes (h : St w0 w B g mv mg gr root st sr d x q vl L vb bl) : ∃ a cap, vb = .slice a bl.length cap ∧ Bytes w a bl ∧ bl.length ≤ cap ∧ (a = none → cap = 0) ∧ (bl ≠ [] → ∃ gs, a = some ⟨gs, 0, none⟩) := by
  obtain ⟨a, cap, rfl, h1, h2, h3⟩ := bytes_of_own0 h.b
  refine ⟨a, cap, rfl, h1, h2, h3, fun h4 => ?_⟩
  rcases h.b.2 with ⟨e, h5⟩ | ⟨g, c, cur, e, _⟩
  · exact absurd (List.eq_nil_of_length_eq_zero h5) h4
  · injection e with e1; exact ⟨g, e1⟩
theorem st_rot (h : St w0 w B g mv mg gr root s s d x q vl L vb bl) (hd : d ≤ 900) (t u : ByteArray) (ht : t.size ≤ maxLen) (hu : u.size ≤ maxLen) : ∃ (sr' : TS) (nr er : Int), sr'.n = s.n ∧
    Calls Tryd.prog 11 #[.pointer (some ⟨g, 0, none⟩), .string t, .string u] w (fun e w' => e = .returned (.tuple #[.int .i64 nr, .int .i64 er]) ∧ St w0 w' B g mv mg gr root sr' s (d + 1) x q vl L vb bl) ∧
    ∀ W, St w0 W B g mv mg gr root sr' s (d + 1) x q vl L vb bl → Calls Tryd.prog 18 #[.pointer (some ⟨gr, 0, none⟩), .string t, .string u] W (fun e w' => e = .returned (.tuple #[.int .i64 nr, .int .i64 er]) ∧ St w0 w' B g mv mg gr root sr' sr' (d + 1) x q vl L vb bl) :=
  ⟨_, _, _, rotR_n t u, (rotate_m h.k.t hd t u ht hu).mono fun e w' ⟨h1, h2, h3⟩ => ⟨h1, h.prog h2 h3⟩, fun W hW => (rRotate_any hW.k.r hW.k.ok hW.k.low t u ht hu).mono fun e w' ⟨h1, h2, h3⟩ => ⟨h1, hW.ref h2 (hW.k.ok.rotR t u) h3⟩⟩
theorem st_des (h : St w0 w B g mv mg gr root s s d x q vl L vb bl) (hd : d ≤ 900) (t : ByteArray) (ht : t.size ≤ maxLen) : ∃ (sr' : TS) (er : Int), sr'.n = s.n ∧
    Calls Tryd.prog 12 #[.pointer (some ⟨g, 0, none⟩), .string t] w (fun e w' => e = .returned (.int .i64 er) ∧ St w0 w' B g mv mg gr root sr' s (d + 1) x q vl L vb bl) ∧
    ∀ W, St w0 W B g mv mg gr root sr' s (d + 1) x q vl L vb bl → Calls Tryd.prog 19 #[.pointer (some ⟨gr, 0, none⟩), .string t] W (fun e w' => e = .returned (.int .i64 er) ∧ St w0 w' B g mv mg gr root sr' sr' (d + 1) x q vl L vb bl) :=
  ⟨_, _, desR_n t, (destroy_m h.k.t hd t ht).mono fun e w' ⟨h1, h2, h3⟩ => ⟨h1, h.prog h2 h3⟩, fun W hW => (rDestroy_any hW.k.r hW.k.ok hW.k.low t ht).mono fun e w' ⟨h1, h2, h3⟩ => ⟨h1, hW.ref h2 (hW.k.ok.desR t) h3⟩⟩
theorem st_seal (h : St w0 w B g mv mg gr root s s d x q vl L vb bl) (hsn : s.n ≤ 1000) (t u : ByteArray) (ht : t.size ≤ maxLen) (hu : u.size ≤ maxLen) (hT : TabsJ w) (a : Option Addr) (m cap : Nat) (hm : m = bl.length) (hv : vb = .slice a m cap) : ∃ (sr' : TS) (er : Int) (pl : List UInt8), sr'.n ≤ s.n + 1 ∧ pl.length ≤ 1049 ∧
    Calls Tryd.prog 13 #[.pointer (some ⟨g, 0, none⟩), .string t, .string u, .slice a m cap] w (fun e w' => ∃ v, e = .returned (.tuple #[v, .int .i64 er]) ∧ w'.ownsRow B 5 1 v pl.length (cellsOf pl) ∧ St w0 w' B g mv mg gr root sr' s d x q vl L vb bl) ∧
    ∀ W pv, St w0 W B g mv mg gr root sr' s d x q vl L vb bl → W.ownsRow B 5 1 pv pl.length (cellsOf pl) → Calls Tryd.prog 20 #[.pointer (some ⟨gr, 0, none⟩), .string t, .string u, .slice a m cap] W (fun e w' => ∃ v, e = .returned (.tuple #[v, .int .i64 er]) ∧ w'.ownsRow B 5 1 v pl.length (cellsOf pl) ∧ w'.ownsRow B 5 1 pv pl.length (cellsOf pl) ∧ St w0 w' B g mv mg gr root sr' sr' d x q vl L vb bl) := by
  have hbs : ∀ W, W.ownsRow B 5 1 vb bl.length (cellsOf bl) → Bytes W a bl := fun W ho => by
    obtain ⟨a', c', e, hB, _⟩ := bytes_of_own0 ho
    rw [hv] at e; injection e with e1; rw [e1]; exact hB
  obtain ⟨o1, o2, o3⟩ := h.k.ok.sealR root t u bl
  refine ⟨_, _, (s.sealR root t u bl).2.1, o2, o3, (seal_m h.k.t hsn t u ht hu bl a m cap hm (hbs _ h.b) hT.1 hT.2).mono fun e w' ⟨v, h1, h2, h3, h4⟩ => ⟨v, h1, own_mono h2 h.k.low, h.prog h3 h4⟩, fun W pv hW hp => (rSeal_any hW.k.r hW.k.ok hW.k.low hsn t u ht hu bl a m cap hm (hbs _ hW.b)).mono fun e w' ⟨v, h1, h2, h3, h4⟩ => ⟨v, h1, own_mono h2 hW.k.low, hW.k.bref hp h4, hW.ref h3 o1 h4⟩⟩
theorem st_open (h : St w0 w B g mv mg gr root s s d x q vl L vb bl) (t u : ByteArray) (ht : t.size ≤ maxLen) (hu : u.size ≤ maxLen) (hT : TabsJ w) (a : Option Addr) (m cap : Nat) (hm : m = bl.length) (hm9 : bl.length ≤ 140737488351232) (hv : vb = .slice a m cap) : ∃ (nr er : Int) (pl : List UInt8), pl.length ≤ bl.length ∧
    Calls Tryd.prog 16 #[.pointer (some ⟨g, 0, none⟩), .string t, .string u, .slice a m cap] w (fun e w' => ∃ v, e = .returned (.tuple #[v, .int .i64 nr, .int .i64 er]) ∧ w'.ownsRow B 5 1 v pl.length (cellsOf pl) ∧ St w0 w' B g mv mg gr root s s d x q vl L vb bl) ∧
    ∀ W pv, St w0 W B g mv mg gr root s s d x q vl L vb bl → W.ownsRow B 5 1 pv pl.length (cellsOf pl) → Calls Tryd.prog 21 #[.pointer (some ⟨gr, 0, none⟩), .string t, .string u, .slice a m cap] W (fun e w' => ∃ v, e = .returned (.tuple #[v, .int .i64 nr, .int .i64 er]) ∧ Lies w' v pl ∧ w'.ownsRow B 5 1 pv pl.length (cellsOf pl) ∧ St w0 w' B g mv mg gr root s s d x q vl L vb bl) := by
  have hbs : ∀ W, W.ownsRow B 5 1 vb bl.length (cellsOf bl) → Bytes W a bl ∧ m ≤ cap := fun W ho => by
    obtain ⟨a', c', e, hB, hc⟩ := bytes_of_own0 ho
    rw [hv] at e; injection e with e1 e2 e3; rw [e1, e3]; exact ⟨hB, by omega⟩
  obtain ⟨a', cap', e, _, _, _, ha⟩ := h.bytes
  rw [hv] at e
  injection e with e1
  rw [← e1] at ha
  refine ⟨_, _, (s.openR root t u bl).1, openR_le _ _ _ _ _, (open_l h.k.t t u ht hu bl a m cap hm (by omega) (hbs _ h.b).2 ha (hbs _ h.b).1 hT.1 hT.2).mono fun e w' ⟨v, h1, h2, h3⟩ => ⟨v, h1, own_mono h2 h.k.low, h.below h3⟩, fun W pv hW hp => (rOpen_any hW.k.r hW.k.ok t u ht hu bl a m cap hm (by omega) (hbs _ hW.b).2 ha (hbs _ hW.b).1).mono fun e w' ⟨v, h1, h2, h3⟩ => ⟨v, h1, h2, own_on hp h3, hW.below h3⟩⟩
theorem st_reseal (h : St w0 w B g mv mg gr root s s d x q vl L vb bl) (hsn : s.n ≤ 1000) (t u : ByteArray) (ht : t.size ≤ maxLen) (hu : u.size ≤ maxLen) (hT : TabsJ w) (a : Option Addr) (m cap : Nat) (hm : m = bl.length) (hm9 : bl.length ≤ 140737488351232) (hv : vb = .slice a m cap) : ∃ (sr' : TS) (br : Bool) (er : Int) (pl : List UInt8), sr'.n ≤ s.n + 1 ∧ pl.length ≤ 140737488351232 ∧
    Calls Tryd.prog 14 #[.pointer (some ⟨g, 0, none⟩), .string t, .string u, .slice a m cap] w (fun e w' => ∃ v, e = .returned (.tuple #[v, .bool br, .int .i64 er]) ∧ w'.ownsRow B 5 1 v pl.length (cellsOf pl) ∧ St w0 w' B g mv mg gr root sr' s d x q vl L vb bl) ∧
    ∀ W pv, St w0 W B g mv mg gr root sr' s d x q vl L vb bl → W.ownsRow B 5 1 pv pl.length (cellsOf pl) → Calls Tryd.prog 22 #[.pointer (some ⟨gr, 0, none⟩), .string t, .string u, .slice a m cap] W (fun e w' => ∃ v, e = .returned (.tuple #[v, .bool br, .int .i64 er]) ∧ w'.ownsRow B 5 1 v pl.length (cellsOf pl) ∧ w'.ownsRow B 5 1 pv pl.length (cellsOf pl) ∧ St w0 w' B g mv mg gr root sr' sr' d x q vl L vb bl) := by
  have hbs : ∀ W, W.ownsRow B 5 1 vb bl.length (cellsOf bl) → Bytes W a bl ∧ m ≤ cap ∧ (a = none → cap = 0) := fun W ho => by
    obtain ⟨a', c', e, hB, hc, hz⟩ := bytes_of_own0 ho
    rw [hv] at e; injection e with e1 e2 e3; rw [e1, e3]; exact ⟨hB, by omega, hz⟩
  obtain ⟨a', cap', e, _, _, _, ha⟩ := h.bytes
  rw [hv] at e
  injection e with e1
  rw [← e1] at ha
  obtain ⟨o1, o2, o3⟩ := h.k.ok.resealR root t u bl
  refine ⟨_, _, _, (s.resealR root t u bl).2.1, o2, by omega, (reseal_l h.k.t hsn t u ht hu bl a m cap hm (by omega) (hbs _ h.b).2.1 ha (hbs _ h.b).1 hT.1 hT.2).mono fun e w' ⟨v, h1, h2, h3, h4⟩ => ⟨v, h1, own_mono h2 h.k.low, h.prog h3 h4⟩, fun W pv hW hp => (rReseal_any hW.k.r hW.k.ok hW.k.low hsn t u ht hu bl a m cap hm (by omega) (hbs _ hW.b).2.1 ha (hbs _ hW.b).1 (hbs _ hW.b).2.2).mono fun e w' ⟨v, h1, h2, h3, h4⟩ => ⟨v, h1, own_mono h2 hW.k.low, hW.k.bref hp h4, hW.ref h3 o1 h4⟩⟩
theorem st_key (h : St w0 w B g mv mg gr root s s d x q vl L vb bl) (t u : ByteArray) (ht : t.size ≤ maxLen) (hu : u.size ≤ maxLen) (v : Int) : ∃ (er : Int) (key : List UInt8) (nr ec : Int),
    (∀ W, TabsJ W → St w0 W B g mv mg gr root s s d x q vl L vb bl → Calls Tryd.prog 10 #[.pointer (some ⟨g, 0, none⟩), .string t, .string u, .int .i64 v] W (HashErr W key er)) ∧
    (∀ W, St w0 W B g mv mg gr root s s d x q vl L vb bl → Calls Tryd.prog 23 #[.pointer (some ⟨gr, 0, none⟩), .string t, .string u, .int .i64 v] W (HashErr W key er)) ∧
    (∀ W, St w0 W B g mv mg gr root s s d x q vl L vb bl → Calls Tryd.prog 9 #[.pointer (some ⟨g, 0, none⟩), .string t, .string u] W fun e w' => e = .returned (.tuple #[.int .i64 nr, .int .i64 ec]) ∧ Below W.heap.size W w') ∧
    (∀ W, St w0 W B g mv mg gr root s s d x q vl L vb bl → Calls Tryd.prog 24 #[.pointer (some ⟨gr, 0, none⟩), .string t, .string u] W fun e w' => e = .returned (.tuple #[.int .i64 nr, .int .i64 ec]) ∧ Below W.heap.size W w') :=
  ⟨_, _, _, _, fun W hT hW => key_m hW.k.t t u ht hu v hT.1 hT.2, fun W hW => rKey_any hW.k.r hW.k.ok t u ht hu v, fun W hW => current_m hW.k.t t u ht hu, fun W hW => rCur_any hW.k.r hW.k.ok t u ht hu⟩
end
end Go.Proofs.YtdglmoikgmlaaaaDoor
