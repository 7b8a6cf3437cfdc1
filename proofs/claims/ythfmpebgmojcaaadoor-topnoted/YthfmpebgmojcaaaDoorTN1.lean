/- TopNoted walked: grants beside a chain of events. (Printed by gen/tn.py.) -/
import Derived.Test.YthfmpebgmojcaaaDoorU25
import Derived.Test.YthfmpebgmojcaaaDoorAPrune
import Derived.Test.YthfmpebgmojcaaaDoorALift
import Derived.Deep.RegionHeld3
namespace Go.Proofs.YthfmpebgmojcaaaDoor
open Go.RowKit
set_option linter.unusedVariables false
set_option maxRecDepth 20000
def tT : ByteArray := ⟨#[116]⟩
def nmT (x : Nat) : ByteArray := ⟨#[UInt8.ofNat (97 + x % 5)]⟩
def usT (x : Nat) : ByteArray := ⟨#[UInt8.ofNat (117 + x % 3)]⟩
theorem conv1T (w : World) (x : Nat) (hx : x < 256) (cap : Nat) : (convert 40 9 (.slice (some ⟨w.heap.size, 0, none⟩) 1 cap)).run Tryd.prog (w.alloc (.cells #[.int .u8 (x : Int)] 5)) = .ok (.string ⟨#[UInt8.ofNat x]⟩) (w.alloc (.cells #[.int .u8 (x : Int)] 5)) := by
  refine run_convert_bytes_back (P := Tryd.prog) _ 40 9 5 ⟨w.heap.size, 0, none⟩ cap [UInt8.ofNat x] Tryd.underlying40 Tryd.underlying5 Tryd.underlying9 (fun j hj => ?_)
  have hj0 : j = 0 := by simpa using hj
  subst hj0
  refine (Gr.cell_of_rowU _ _ 0 _ _ _ (Gr.heap_allocN w _)).trans ?_
  simp
  omega
theorem szT (b : UInt8) : (⟨#[b]⟩ : ByteArray).size ≤ maxLen := by
  show 1 ≤ maxLen
  unfold maxLen
  omega
def clT (x : Nat) : Gr.Cl := ⟨tT, nmT x, ⟨#[]⟩, 15⟩
def coT (x : Nat) : Gr.Co := ⟨tT, usT x, nmT x, x % 16⟩
/-- the store's, the chain's state in memory -/
structure NT (V : World) (B g gc : Nat) (s : Gr.GS) (q : Nat) (v : Value) (c : Ch) : Prop where
  gp : ∃ X, Gr.GP V B g s q q X
  ch : ChAt V B gc v c
/-- what a chain of those events is -/
structure CT (c : Ch) (done k : Nat) : Prop where
  ok : ChOk c
  sound : Sound c
  bn : c.bn = 0
  len : c.ev.length = done
  la : c.la ≤ k
theorem CT.next {c : Ch} {done k : Nat} (h : CT c done k) : CT c done (k + 1) := ⟨h.ok, h.sound, h.bn, h.len, Nat.le_succ_of_le h.la⟩
theorem CT.addE {c : Ch} {done k : Nat} (h : CT c done k) (hd : done ≤ k) (hk : k < 60) (what : ByteArray) (who : ByteArray) (h1 : what.size ≤ 12) (h2 : who.size ≤ 30) : addE c (k : Int) what who = 0 := by
  unfold Go.Proofs.YthfmpebgmojcaaaDoor.addE
  have := h.la
  have := h.len
  rw [if_neg (by omega), if_neg (by omega), if_neg (by omega), if_neg (by omega)]
theorem CT.add {c : Ch} {done k : Nat} (h : CT c done k) (hd : done ≤ k) (hk : k < 60) (what : ByteArray) (who : ByteArray) (h1 : what.size ≤ 12) (h2 : who.size ≤ 30) : CT (addR c (k : Int) what who) (done + 1) (k + 1) := by
  have he := h.addE hd hk what who h1 h2
  refine ⟨addR_ok h.ok _ _ _, addR_sound h.ok h.sound _ _ _, ?_, ?_, ?_⟩
  · unfold addR; rw [if_pos he]; exact h.bn
  · unfold addR; rw [if_pos he]
    show (c.ev ++ [_]).length = _
    rw [List.length_append, List.length_singleton, h.len]
  · unfold addR; rw [if_pos he]
    show ((k : Int)).toNat ≤ k + 1
    omega
section
variable {V V' : World} {B g gc q q' : Nat} {s s' : Gr.GS} {v : Value} {c : Ch}
theorem NT.below (h : NT V B g gc s q v c) (hb : Below V.heap.size V V') : NT V' B g gc s q v c := by
  obtain ⟨⟨X, h1⟩, h2⟩ := h
  exact ⟨⟨X, h1.below hb⟩, h2.below hb⟩
theorem NT.turned (h : NT V B g gc s q v c) {X : Nat → Prop} (h1 : Gr.GP V B g s q q X) (t : Gr.Turned V V' B g s' q' q' X) : NT V' B g gc s' q' v c := by
  obtain ⟨_, h2⟩ := h
  obtain ⟨ho, X', h3, _⟩ := t
  have hn : ∀ {k : Nat} {cs : Array Value} {T : TypeId}, V.heap[k]? = some (.cells cs T (0, 0)) → T ≠ 105 → T ≠ 109 → V'.heap[k]? = V.heap[k]? := fun {k cs T} hk n1 n2 => (h1.keep ho hk n1 n2).trans hk.symm
  refine ⟨⟨X', h3⟩, h2.keep (hn h2.obj (by decide) (by decide)) (fun k hk => ?_)⟩
  rcases h2.row.2 with ⟨e, _⟩ | ⟨g9, cap, cur, e, _, hg9, _⟩
  · rw [e] at hk; cases hk
  · rw [e] at hk
    obtain rfl : g9 = k := by simpa [Value.ownBlock] using hk
    exact hn hg9 (by decide) (by decide)
theorem NT.added (h : NT V B g gc s q v c) {v' : Value} {c' : Ch} (h2 : ChAt V' B gc v' c') (ho : Out (CBlk gc v) V V') : NT V' B g gc s q v' c' := by
  obtain ⟨⟨X, h1⟩, h3⟩ := h
  refine ⟨⟨X, h1.outJ (P := CBlk gc v) ⟨ho.os, ho.tape, ho.output, ho.size, ho.block⟩ (fun k hk hp => ?_)⟩, h2⟩
  have ht := h1.typed k hk
  have hno : ∀ {cs : Array Value} {T : TypeId}, V.heap[k]? = some (.cells cs T (0, 0)) → T ≠ 105 → T ≠ 109 → False := fun {cs T} e n1 n2 => by
    rcases ht with ⟨es, c9, e9⟩ | ⟨cs', T', fr', e9, hT⟩
    · rw [e] at e9; cases e9
    · rw [e] at e9; cases e9; exact hT.elim n1 n2
  rcases hp with rfl | hp
  · exact hno h3.obj (by decide) (by decide)
  · rcases h3.row.2 with ⟨e, _⟩ | ⟨g9, cap, cur, e, _, hg9, _⟩
    · rw [e] at hp; cases hp
    · rw [e] at hp
      obtain rfl : g9 = k := by simpa [Value.ownBlock] using hp
      exact hno hg9 (by decide) (by decide)
end
theorem and_self_u8 (a b : Nat) (ha : a < 256) (hb : b < 256) (h : a &&& b = a) : bits BinOp.and IntKind.u8 (a : Int) (b : Int) = (a : Int) := by
  rw [Gr.and_bits a b ha hb, h]
/-- blocks of other kinds stay -/
def Kp (V V' : World) : Prop := ∀ (k : Nat) (cs : Array Value) (T : TypeId), V.heap[k]? = some (.cells cs T (0, 0)) → T ≠ 105 → T ≠ 109 → T ≠ 87 → T ≠ 55 → V'.heap[k]? = some (.cells cs T (0, 0))
theorem Kp.below {V V' : World} (h : Below V.heap.size V V') : Kp V V' := fun k cs T hk _ _ _ _ => (h.block k (Gr.heap_lt hk)).trans hk
section
variable {V : World} {B g gc q : Nat} {s : Gr.GS} {v : Value} {c : Ch}
theorem nt_reg (h : NT V B g gc s q v c) (hq : q ≤ 1000) (x : Gr.Cl) (hx : Gr.ClIn x) :
    Calls Tryd.prog 17 #[.pointer (some ⟨g, 0, none⟩), .agg #[.string x.t, .string x.n, .string x.r, .int .u8 (x.sc : Int)]] V fun e w' => e = .returned (.int .i64 (Gr.regEs s x : Nat)) ∧ NT w' B g gc (s.reg x) (q + 1) v c ∧ Kp V w' ∧ Below B V w' := by
  obtain ⟨X, h1⟩ := h.gp
  refine (Gr.gRegister_any h1 (by omega) (by omega) x hx).mono ?_
  rintro _ w' ⟨rfl, t⟩
  exact ⟨rfl, h.turned h1 t, fun k cs T hk n1 n2 _ _ => h1.keep t.1 hk n1 n2, t.below h1⟩
theorem nt_alw (h : NT V B g gc s q v c) (hq : q ≤ 1000) (x : Gr.Co) (ht : x.t.size ≤ maxLen) (hu : x.u.size ≤ maxLen) (hn : x.n.size ≤ maxLen) (hs : x.sc ≤ 255) :
    Calls Tryd.prog 18 #[.pointer (some ⟨g, 0, none⟩), .agg #[.string x.t, .string x.u, .string x.n, .int .u8 (x.sc : Int)]] V fun e w' => e = .returned (.int .i64 (Gr.allEs s x : Nat)) ∧ NT w' B g gc (s.alw x) (q + 1) v c ∧ Kp V w' ∧ Below B V w' := by
  obtain ⟨X, h1⟩ := h.gp
  refine (Gr.gAllow_any h1 (by omega) (by omega) x ht hu hn hs).mono ?_
  rintro _ w' ⟨rfl, t⟩
  obtain ⟨t1, X', t2, t3⟩ := t
  have t : Gr.Turned V w' B g (s.alw x) (q + 1) (q + 1) X := ⟨t1, X', ⟨t2.at', Nat.le_succ_of_le t2.cl, t2.al, t2.base⟩, t3⟩
  exact ⟨rfl, h.turned h1 t, fun k cs T hk n1 n2 _ _ => h1.keep t.1 hk n1 n2, t.below h1⟩
theorem nt_drp (h : NT V B g gc s q v c) (t n : ByteArray) (ht : t.size ≤ maxLen) (hn : n.size ≤ maxLen) :
    Calls Tryd.prog 19 #[.pointer (some ⟨g, 0, none⟩), .string t, .string n] V fun e w' => e = .returned (.int .i64 (Gr.noneE (Gr.findC s t n).isSome)) ∧ NT w' B g gc (s.dropC t n) (q + 1) v c ∧ Kp V w' ∧ Below B V w' := by
  obtain ⟨X, h1⟩ := h.gp
  refine (Gr.gDrop_any h1 t n ht hn).mono ?_
  rintro _ w' ⟨rfl, t⟩
  obtain ⟨t1, X', t2, t3⟩ := t
  obtain ⟨mc, L, t4, t5⟩ := t2.at'
  have t : Gr.Turned V w' B g (s.dropC _ n) (q + 1) (q + 1) X := ⟨t1, X', ⟨⟨mc, L, t4.mono (Nat.le_succ _), t5⟩, Nat.le_succ_of_le t2.cl, Nat.le_succ_of_le t2.al, t2.base⟩, t3⟩
  exact ⟨rfl, h.turned h1 t, fun k cs T hk n1 n2 _ _ => h1.keep t.1 hk n1 n2, t.below h1⟩
theorem nt_add (h : NT V B g gc s q v c) {done k : Nat} (hC : CT c done k) (hd : done ≤ k) (hk : k < 60) (what who : ByteArray) (h1 : what.size ≤ 12) (h2 : who.size ≤ 30) (hT : Tabs V B) (hB : B ≤ V.heap.size) :
    Calls Tryd.prog 20 #[.pointer (some ⟨gc, 0, none⟩), .int .i64 (k : Int), .string what, .string who] V fun e w' => ∃ (ev : Ev) (v' : Value) (c' : Ch), e = .returned (.tuple #[.agg #[.int .i64 (ev.num : Int), .int .i64 (ev.tim : Int), .string ev.what, .string ev.who], .int .i64 0]) ∧ NT w' B g gc s q v' c' ∧ CT c' (done + 1) (k + 1) ∧ Kp V w' ∧ Below B V w' := by
  have he := hC.addE hd hk what who h1 h2
  refine (add_any h.ch hC.ok (by unfold Ch.cnt; rw [hC.bn, hC.len]; omega) hB (k : Int) what who (by omega) (by omega) hT).mono ?_
  rintro _ w' ⟨v', rfl, q1, q2, q3⟩
  rw [he]
  refine ⟨_, v', _, rfl, h.added q1 q2, hC.add hd hk what who h1 h2, fun k9 cs T hk9 _ _ n3 n4 => ?_, q2.below hB h.ch.blk⟩
  refine (q2.block k9 (Gr.heap_lt hk9) (fun hp => ?_)).trans hk9
  rcases hp with rfl | hp
  · have := h.ch.obj
    rw [hk9] at this
    cases this
    exact n3 rfl
  · rcases h.ch.row.2 with ⟨e, _⟩ | ⟨g9, cap, cur, e, _, hg9, _⟩
    · rw [e] at hp; cases hp
    · rw [e] at hp
      obtain rfl : g9 = k9 := by simpa [Value.ownBlock] using hp
      rw [hk9] at hg9
      cases hg9
      exact n4 rfl
theorem nt_cons (h : NT V B g gc s q v c) (t u n : ByteArray) (ht : t.size ≤ maxLen) (hu : u.size ≤ maxLen) (hn : n.size ≤ maxLen) :
    Calls Tryd.prog 21 #[.pointer (some ⟨g, 0, none⟩), .agg #[.string t, .string u], .string n] V fun e w' => e = .returned (.tuple #[.agg (((Gr.fA s t u n).map Gr.coC).getD Gr.clC0), .int .i64 (Gr.noneE (Gr.fA s t u n).isSome)]) ∧ Below V.heap.size V w' := by
  obtain ⟨X, h1⟩ := h.gp
  exact Gr.gConsent_any h1 t u n ht hu hn
theorem nt_cli (h : NT V B g gc s q v c) (t n : ByteArray) (ht : t.size ≤ maxLen) (hn : n.size ≤ maxLen) :
    Calls Tryd.prog 22 #[.pointer (some ⟨g, 0, none⟩), .string t, .string n] V fun e w' => e = .returned (.tuple #[.agg (((Gr.findC s t n).map Gr.clC).getD Gr.clC0), .int .i64 (Gr.noneE (Gr.findC s t n).isSome)]) ∧ Below V.heap.size V w' := by
  obtain ⟨X, h1⟩ := h.gp
  exact Gr.gClient_any h1 t n ht hn
theorem NT.sok (h : NT V B g gc s q v c) : s.Ok := by
  obtain ⟨X, h1⟩ := h.gp
  exact h1.ok
end
/-- a consent that is there has its client -/
theorem cli_of {s : Gr.GS} (h : s.Ok) {t u n : ByteArray} {a : Gr.Co} (hf : Gr.fA s t u n = some a) : ∃ c, Gr.findC s t n = some c ∧ a.sc &&& c.sc = a.sc ∧ a.sc ≤ 255 ∧ c.sc ≤ 255 := by
  obtain ⟨h1, rfl, rfl, rfl⟩ := Gr.fA_some hf
  obtain ⟨_, _, h2, c, h3, h4, h5, h6⟩ := h.anames a h1
  refine ⟨c, ?_, h6, h2, (h.names c h3).2.2.2⟩
  cases hc : Gr.findC s a.t a.n with
  | none =>
    have := List.find?_eq_none.1 hc c h3
    exact absurd (Gr.isC_iff.2 ⟨h4, h5⟩) (by simpa using this)
  | some d =>
    have h7 := List.mem_of_find?_eq_some hc
    have h8 := Gr.isC_iff.1 (List.find?_some hc)
    rw [h.c_inj h7 h3 (by rw [h8.1, h4]) (by rw [h8.2, h5])]
/-- what the loop keeps -/
def NRel (W : World) (g gc : Nat) (k : Nat) (dn : Value) (wr : World) : Prop := ∃ (s : Gr.GS) (v : Value) (c : Ch) (done : Nat), dn = .int .i64 (done : Int) ∧ done ≤ k ∧ NT wr W.heap.size g gc s k v c ∧ CT c done k ∧ Below W.heap.size W wr
set_option maxHeartbeats 16000000 in
theorem topNoted_walk {W : World} (l : List UInt8) (a : Option Addr) (cap : Nat) (hl : BytesIn W a cap l) (hT : Tabs W W.heap.size) :
    Calls Tryd.prog 4 #[.slice a l.length cap] W fun e w' => e = .returned (.bool true) ∧ Below W.heap.size W w' := by
  have Hl := hid hl
  have HT := hid hT
  have hln := hl.length
  have HN := hid (Gr.gNew_any W W.heap.size (Nat.le_refl _))
  obtain ⟨N, hN⟩ : ∃ N, N = l.length := ⟨_, rfl⟩
  rw [← hN] at hln ⊢
  have HLen := hid hN
  clear hl hT hN
  go_enter Tryd.func4, Tryd.ntmps4
  go_wp2_with (first
    | (go_at_call 15; refine HN.out.mono ?_; rintro _ w1 ⟨g, X1, rfl, b1, g1, _⟩; have B1 := hid b1; have G1 := hid g1; clear HN b1 g1)
    | (go_at_call 16; refine (new_any w1).mono ?_; rintro _ w2 ⟨gc, rfl, h2, b2⟩; have B2 := hid (Gr.Below.on' B1.out b2); have N2 : Hid (NT w2 W.heap.size g gc ⟨[], []⟩ 0 (.slice none 0 0) ch0) := ⟨⟨_, G1.out.below b2⟩, ⟨h2.obj, World.ownsRow_nil _ _ _ _, Nat.le_trans B1.out.size h2.bg⟩⟩; clear h2 b2 G1 B1))
  go_loopw [5, 6] (fun dn i wr => ∃ k : Nat, k ≤ N ∧ k ≤ 60 ∧ i = .int .i64 (k : Int) ∧ NRel W g gc k dn wr) (fun _ i _ => N - (intOf i).toNat)
  case atStart => exact ⟨0, Nat.zero_le _, Nat.zero_le _, rfl, _, _, _, 0, rfl, Nat.le_refl _, N2.out, ⟨ch0_ok, sound0, rfl, rfl, Nat.le_refl _⟩, B2.out⟩
  case round =>
    obtain ⟨k, hk, hk6, rfl, s, v, c, done, rfl, hd, hN, hC, hb⟩ := hrel
    have HNt := hid hN
    have HCt := hid hC
    have Hb := hid hb
    have Hd := hid hd
    have Hk6 := hid hk6
    clear hN hC hb hd
    by_cases hlt : k < N
    · have g1 : decide ((k : Int) < (N : Int)) = true := by simp; omega
      by_cases hl6 : k < 60
      · have g6 : decide ((k : Int) < 60) = true := by simp; omega
        have hkl : k < l.length := by have := HLen.out; omega
        obtain ⟨bb, oo, rfl, hc⟩ := Hl.out.bytes k hkl
        obtain ⟨x, hx⟩ : ∃ x : Nat, x = (l[k]).toNat := ⟨_, rfl⟩
        rw [← hx] at hc
        have hx255 : x ≤ 255 := by rw [hx]; have := (l[k]).toNat_lt; omega
        have Hc := hid (fun (V : World) (hV : Below W.heap.size W V) => (hV.cell (World.block_lt_of_cell? _ _ hc)).trans hc)
        have c0 := Hc.out wr Hb.out
        clear hk hk6 hx hc hkl
        obtain ⟨y5, m5, hy5⟩ : ∃ y : Nat, (x : Int) % 5 = (y : Int) ∧ y = x % 5 := ⟨x % 5, by omega, rfl⟩
        obtain ⟨y3, m3, hy3⟩ : ∃ y : Nat, (x : Int) % 3 = (y : Int) ∧ y = x % 3 := ⟨x % 3, by omega, rfl⟩
        obtain ⟨y4, m4, hy4⟩ : ∃ y : Nat, (x : Int) % 4 = (y : Int) ∧ y = x % 4 := ⟨x % 4, by omega, rfl⟩
        obtain ⟨y16, m16, hy16⟩ : ∃ y : Nat, (x : Int) % 16 = (y : Int) ∧ y = x % 16 := ⟨x % 16, by omega, rfl⟩
        have t16 : Hid ((x : Int).tmod 16 = (y16 : Int)) := (Int.tmod_eq_emod_of_nonneg (by omega)).trans m16
        clear m16
        have z5 : (y5 : Int) ≤ 4 := by omega
        have z5' : (0 : Int) ≤ (y5 : Int) := by omega
        have z3 : (y3 : Int) ≤ 2 := by omega
        have z3' : (0 : Int) ≤ (y3 : Int) := by omega
        have z16 : y16 ≤ 255 := by omega
        have hy4c : y4 = 0 ∨ y4 = 1 ∨ y4 = 2 ∨ y4 = 3 := by omega
        obtain ⟨nm, hnm⟩ : ∃ nm : ByteArray, nm = ⟨#[UInt8.ofNat (97 + y5)]⟩ := ⟨_, rfl⟩
        obtain ⟨us, hus⟩ : ∃ us : ByteArray, us = ⟨#[UInt8.ofNat (117 + y3)]⟩ := ⟨_, rfl⟩
        have snm : Hid (nm.size ≤ maxLen ∧ nm.size ≤ 30) := by rw [hnm]; exact ⟨szT _, by show 1 ≤ 30; omega⟩
        have sus : Hid (us.size ≤ maxLen) := by rw [hus]; exact szT _
        obtain ⟨Y1, hY1⟩ : ∃ Y1, Y1 = wr.alloc (.cells #[.int .u8 (97 + (y5 : Int))] 5) := ⟨_, rfl⟩
        obtain ⟨Y2, hY2⟩ : ∃ Y2, Y2 = Y1.alloc (.cells #[.int .u8 (117 + (y3 : Int))] 5) := ⟨_, rfl⟩
        obtain ⟨Y3, hY3⟩ : ∃ Y3, Y3 = Y2.alloc (.cells #[.string ⟨#[116]⟩, .string us] 45) := ⟨_, rfl⟩
        have s1 : Y1.heap.size = wr.heap.size + 1 := by rw [hY1]; simp
        have s2 : Y2.heap.size = wr.heap.size + 2 := by rw [hY2]; simp [s1]
        have bY1 : Below wr.heap.size wr Y1 := by rw [hY1]; exact (Below.refl _ wr).alloc (Nat.le_refl _) _
        have bY2 : Below wr.heap.size wr Y2 := by rw [hY2]; exact bY1.alloc bY1.size _
        have bY3 : Below wr.heap.size wr Y3 := by rw [hY3]; exact bY2.alloc bY2.size _
        have xO : Y3.heap[wr.heap.size + 2]? = some (.cells #[.string ⟨#[116]⟩, .string us] 45 (0, 0)) := by rw [hY3, ← s2]; exact Gr.heap_allocN _ _
        have hcv1 : (convert 40 9 (.slice (some ⟨wr.heap.size, 0, none⟩) 1 1)).run Tryd.prog Y1 = .ok (.string nm) Y1 := by
          have h9 := conv1T wr (97 + y5) (by omega) 1
          rw [show ((97 + y5 : Nat) : Int) = 97 + (y5 : Int) by omega, ← hnm, ← hY1] at h9
          exact h9
        have hcv2 : (convert 40 9 (.slice (some ⟨wr.heap.size + 1, 0, none⟩) 1 1)).run Tryd.prog Y2 = .ok (.string us) Y2 := by
          have h9 := conv1T Y1 (117 + y3) (by omega) 1
          rw [show ((117 + y3 : Nat) : Int) = 117 + (y3 : Int) by omega, ← hus, ← hY2, s1] at h9
          exact h9
        have c1 := Hc.out Y1 (Gr.Below.on' Hb.out bY1)
        have c3 := Hc.out Y3 (Gr.Below.on' Hb.out bY3)
        have N3 := hid (HNt.out.below bY3)
        have B3 := hid (Gr.Below.on' Hb.out bY3)
        have XO := hid xO
        have HY : Hid (((wr.alloc (.cells #[.int .u8 (97 + (y5 : Int))] 5)).alloc (.cells #[.int .u8 (117 + (y3 : Int))] 5)).alloc (.cells #[.string ⟨#[116]⟩, .string us] 45) = Y3) := by rw [Hid, hY3, hY2, hY1]
        rw [hY1] at c1 hcv1
        rw [hY2, hY1] at hcv2
        rw [← HY.out] at c3
        have hkw : Hid (k < 60) := hl6
        have gdw : Hid (wrap64 ((done : Int) + 1) = ((done + 1 : Nat) : Int)) := by
          show wrap64 ((done : Int) + 1) = ((done + 1 : Nat) : Int)
          have := Hd.out
          rw [IntWalk.wrap64_in _ (by omega)]
          omega
        have Hlt := hid hlt
        have Hsz := hid (And.intro s1 s2)
        clear hY1 hY2 hY3 bY1 bY2 bY3 xO s1 s2 hnm hus hlt hl6 hy5 hy3 hy16
        have hcU : Hid (Gr.ClIn ⟨tT, nm, ⟨#[]⟩, 15⟩) := ⟨by show 1 ≤ 9223372036854775807; omega, by have := snm.out.1; unfold maxLen at this; show nm.size ≤ 9223372036854775807; omega, by show 0 ≤ 9223372036854775807; omega, by show 15 ≤ 255; omega⟩
        rcases hy4c with h4 | h4 | h4 | h4
        · subst h4
          as_aux_lemma =>
            skip
            have m4' : (x : Int) % 4 = 0 := by omega
            clear m4 hy4
            obtain ⟨E, hE⟩ : ∃ E : Nat, E = Gr.regEs s (⟨tT, nm, ⟨#[]⟩, 15⟩ : Gr.Cl) := ⟨_, rfl⟩
            obtain ⟨s5, hs5⟩ : ∃ s5, s5 = s.reg (⟨tT, nm, ⟨#[]⟩, 15⟩ : Gr.Cl) := ⟨_, rfl⟩
            have HOp := hid (show Calls Tryd.prog 17 #[.pointer (some ⟨g, 0, none⟩), .agg #[.string ⟨#[116]⟩, .string nm, .string ⟨#[]⟩, .int .u8 15]] Y3 fun e w' => e = .returned (.int .i64 (E : Int)) ∧ NT w' W.heap.size g gc s5 (k + 1) v c ∧ Kp Y3 w' ∧ Below W.heap.size Y3 w' from by rw [hE, hs5]; exact nt_reg N3.out (by have := hkw.out; omega) _ hcU.out)
            clear hE hs5
            by_cases hE0 : E = 0
            · subst hE0
              cases hfa : Gr.fA s5 tT us nm with
              | none =>
                have HCons := hid (fun (V : World) (q : Nat) (v : Value) (c : Ch) (h : NT V W.heap.size g gc s5 q v c) => (show Calls Tryd.prog 21 #[.pointer (some ⟨g, 0, none⟩), .agg #[.string ⟨#[116]⟩, .string us], .string nm] V fun e w' => e = .returned (.tuple #[.agg #[.string ⟨#[]⟩, .string ⟨#[]⟩, .string ⟨#[]⟩, .int .u8 0], .int .i64 4]) ∧ Below V.heap.size V w' from by
                  have h9 := nt_cons h tT us nm (szT _) sus.out snm.out.1
                  rw [hfa] at h9
                  exact h9))
                clear hfa
                go_wp2_with (first
                  | (go_at_call 21; refine (HCons.out _ _ _ _ N6.out).mono ?_; rintro _ w7 ⟨rfl, b7⟩; have N7 := hid ((N6.out.below b7).below ((Below.refl _ w7).alloc (Nat.le_refl _) (.cells #[.string ⟨#[]⟩, .string ⟨#[]⟩, .string ⟨#[]⟩, .int .u8 0] 52))); have B7 := hid ((Gr.Below.on' B6.out b7).alloc (Gr.Below.on' B6.out b7).size (.cells #[.string ⟨#[]⟩, .string ⟨#[]⟩, .string ⟨#[]⟩, .int .u8 0] 52)); clear b7 p0 p1)
                  | (go_at_call 20; refine (nt_add (what := ⟨#[103, 114, 97, 110, 116]⟩) (who := nm) N5.out HCt.out Hd.out hkw.out (by show 5 ≤ 12; omega) snm.out.2 (HT.out.keep B5.out) B5.out.size).mono ?_; rintro _ w6 ⟨ev, v', c', rfl, n6, ct6, kp6, b6⟩; have N6 := hid (n6.below ((Below.refl _ w6).alloc (Nat.le_refl _) (.cells #[.int .i64 (ev.num : Int), .int .i64 (ev.tim : Int), .string ev.what, .string ev.who] 55))); have CT6 := hid ct6; have B6 := hid ((B5.out.trans b6).alloc (B5.out.trans b6).size (.cells #[.int .i64 (ev.num : Int), .int .i64 (ev.tim : Int), .string ev.what, .string ev.who] 55)); have XO6 := hid ((((Below.refl _ w6).alloc (Nat.le_refl _) (.cells #[.int .i64 (ev.num : Int), .int .i64 (ev.tim : Int), .string ev.what, .string ev.who] 55)).block _ (Gr.heap_lt (kp6 _ _ _ XO5.out (by decide) (by decide) (by decide) (by decide)))).trans (kp6 _ _ _ XO5.out (by decide) (by decide) (by decide) (by decide))); have p0 := (Gr.cell_of_rowU _ _ 0 _ _ _ XO6.out).trans (rfl : _ = some (Value.string ⟨#[116]⟩)); have p1 := (Gr.cell_of_rowU _ _ 1 _ _ _ XO6.out).trans (rfl : _ = some (Value.string us)); clear n6 ct6 kp6 b6)
                  | (go_at_call 17; rw [HY.out]; refine HOp.out.mono ?_; rintro _ w5 ⟨rfl, n5, kp5, b5⟩; have N5 := hid n5; have B5 := hid (B3.out.trans b5); have XO5 := hid (kp5 _ _ _ XO.out (by decide) (by decide) (by decide) (by decide)); clear n5 kp5 b5)
                  | go_in)
                go_roundw
                case rel => exact ⟨k + 1, by have := Hlt.out; omega, by have := hkw.out; omega, by first | rfl | simp, _, v', c', done + 1, by show Value.int .i64 (wrap64 ((done : Int) + 1)) = _; rw [gdw.out], by have := Hd.out; omega, N7.out, CT6.out, B7.out⟩
                case measure => exact Gr.measU _ _ _ Hlt.out rfl
              | some a =>
                have HCons := hid (fun (V : World) (q : Nat) (v : Value) (c : Ch) (h : NT V W.heap.size g gc s5 q v c) => (show Calls Tryd.prog 21 #[.pointer (some ⟨g, 0, none⟩), .agg #[.string ⟨#[116]⟩, .string us], .string nm] V fun e w' => e = .returned (.tuple #[.agg #[.string a.t, .string a.u, .string a.n, .int .u8 (a.sc : Int)], .int .i64 0]) ∧ Below V.heap.size V w' from by
                  have h9 := nt_cons h tT us nm (szT _) sus.out snm.out.1
                  rw [hfa] at h9
                  exact h9))
                have HCli := hid (fun (V : World) (q : Nat) (v : Value) (c : Ch) (h : NT V W.heap.size g gc s5 q v c) => (show ∃ cc : Gr.Cl, bits BinOp.and IntKind.u8 (a.sc : Int) (cc.sc : Int) = (a.sc : Int) ∧ Calls Tryd.prog 22 #[.pointer (some ⟨g, 0, none⟩), .string ⟨#[116]⟩, .string nm] V fun e w' => e = .returned (.tuple #[.agg #[.string cc.t, .string cc.n, .string cc.r, .int .u8 (cc.sc : Int)], .int .i64 0]) ∧ Below V.heap.size V w' from by
                  obtain ⟨cc, k1, k2, k3, k4⟩ := cli_of h.sok hfa
                  refine ⟨cc, and_self_u8 _ _ (by omega) (by omega) k2, ?_⟩
                  have h9 := nt_cli h tT nm (szT _) snm.out.1
                  rw [k1] at h9
                  exact h9))
                clear hfa
                go_wp2_with (first
                  | (go_at_call 22; refine HCl2.out.mono ?_; rintro _ w8 ⟨rfl, b8⟩; have N8 := hid ((N7.out.below b8).below ((Below.refl _ w8).alloc (Nat.le_refl _) (.cells #[.string cc.t, .string cc.n, .string cc.r, .int .u8 (cc.sc : Int)] 49))); have B8 := hid ((Gr.Below.on' B7.out b8).alloc (Gr.Below.on' B7.out b8).size (.cells #[.string cc.t, .string cc.n, .string cc.r, .int .u8 (cc.sc : Int)] 49)); have XA8 := (((Below.refl _ w8).alloc (Nat.le_refl _) (.cells #[.string cc.t, .string cc.n, .string cc.r, .int .u8 (cc.sc : Int)] 49)).block _ (Gr.heap_lt ((b8.block _ (Gr.heap_lt XA.out)).trans XA.out))).trans ((b8.block _ (Gr.heap_lt XA.out)).trans XA.out); have pa := (Gr.cell_of_rowU _ _ 3 _ _ _ XA8).trans (rfl : _ = some (Value.int .u8 (a.sc : Int))); have pc := (Gr.cell_of_rowU _ _ 3 _ _ _ (Gr.heap_allocN w8 (.cells #[.string cc.t, .string cc.n, .string cc.r, .int .u8 (cc.sc : Int)] 49))).trans (rfl : _ = some (Value.int .u8 (cc.sc : Int))); clear b8 XA8)
                  | (go_at_call 21; refine (HCons.out _ _ _ _ N6.out).mono ?_; rintro _ w7 ⟨rfl, b7⟩; have N7 := hid ((N6.out.below b7).below ((Below.refl _ w7).alloc (Nat.le_refl _) (.cells #[.string a.t, .string a.u, .string a.n, .int .u8 (a.sc : Int)] 52))); have B7 := hid ((Gr.Below.on' B6.out b7).alloc (Gr.Below.on' B6.out b7).size (.cells #[.string a.t, .string a.u, .string a.n, .int .u8 (a.sc : Int)] 52)); have XA := hid (Gr.heap_allocN w7 (.cells #[.string a.t, .string a.u, .string a.n, .int .u8 (a.sc : Int)] 52)); obtain ⟨cc, hbit, hcl⟩ := HCli.out _ _ _ _ N7.out; have HCl2 := hid hcl; clear b7 p0 p1 hcl)
                  | (go_at_call 20; refine (nt_add (what := ⟨#[103, 114, 97, 110, 116]⟩) (who := nm) N5.out HCt.out Hd.out hkw.out (by show 5 ≤ 12; omega) snm.out.2 (HT.out.keep B5.out) B5.out.size).mono ?_; rintro _ w6 ⟨ev, v', c', rfl, n6, ct6, kp6, b6⟩; have N6 := hid (n6.below ((Below.refl _ w6).alloc (Nat.le_refl _) (.cells #[.int .i64 (ev.num : Int), .int .i64 (ev.tim : Int), .string ev.what, .string ev.who] 55))); have CT6 := hid ct6; have B6 := hid ((B5.out.trans b6).alloc (B5.out.trans b6).size (.cells #[.int .i64 (ev.num : Int), .int .i64 (ev.tim : Int), .string ev.what, .string ev.who] 55)); have XO6 := hid ((((Below.refl _ w6).alloc (Nat.le_refl _) (.cells #[.int .i64 (ev.num : Int), .int .i64 (ev.tim : Int), .string ev.what, .string ev.who] 55)).block _ (Gr.heap_lt (kp6 _ _ _ XO5.out (by decide) (by decide) (by decide) (by decide)))).trans (kp6 _ _ _ XO5.out (by decide) (by decide) (by decide) (by decide))); have p0 := (Gr.cell_of_rowU _ _ 0 _ _ _ XO6.out).trans (rfl : _ = some (Value.string ⟨#[116]⟩)); have p1 := (Gr.cell_of_rowU _ _ 1 _ _ _ XO6.out).trans (rfl : _ = some (Value.string us)); clear n6 ct6 kp6 b6)
                  | (go_at_call 17; rw [HY.out]; refine HOp.out.mono ?_; rintro _ w5 ⟨rfl, n5, kp5, b5⟩; have N5 := hid n5; have B5 := hid (B3.out.trans b5); have XO5 := hid (kp5 _ _ _ XO.out (by decide) (by decide) (by decide) (by decide)); clear n5 kp5 b5)
                  | go_in)
                go_roundw
                case rel => exact ⟨k + 1, by have := Hlt.out; omega, by have := hkw.out; omega, by first | rfl | simp, _, v', c', done + 1, by show Value.int .i64 (wrap64 ((done : Int) + 1)) = _; rw [gdw.out], by have := Hd.out; omega, N8.out, CT6.out, B8.out⟩
                case measure => exact Gr.measU _ _ _ Hlt.out rfl
            · have e0 : ((E : Int) == 0) = false := by simp; omega
              clear hE0
              cases hfa : Gr.fA s5 tT us nm with
              | none =>
                have HCons := hid (fun (V : World) (q : Nat) (v : Value) (c : Ch) (h : NT V W.heap.size g gc s5 q v c) => (show Calls Tryd.prog 21 #[.pointer (some ⟨g, 0, none⟩), .agg #[.string ⟨#[116]⟩, .string us], .string nm] V fun e w' => e = .returned (.tuple #[.agg #[.string ⟨#[]⟩, .string ⟨#[]⟩, .string ⟨#[]⟩, .int .u8 0], .int .i64 4]) ∧ Below V.heap.size V w' from by
                  have h9 := nt_cons h tT us nm (szT _) sus.out snm.out.1
                  rw [hfa] at h9
                  exact h9))
                clear hfa
                go_wp2_with (first
                  | (go_at_call 21; refine (HCons.out _ _ _ _ N5.out).mono ?_; rintro _ w7 ⟨rfl, b7⟩; have N7 := hid ((N5.out.below b7).below ((Below.refl _ w7).alloc (Nat.le_refl _) (.cells #[.string ⟨#[]⟩, .string ⟨#[]⟩, .string ⟨#[]⟩, .int .u8 0] 52))); have B7 := hid ((Gr.Below.on' B5.out b7).alloc (Gr.Below.on' B5.out b7).size (.cells #[.string ⟨#[]⟩, .string ⟨#[]⟩, .string ⟨#[]⟩, .int .u8 0] 52)); clear b7 p0 p1)
                  | (go_at_call 17; rw [HY.out]; refine HOp.out.mono ?_; rintro _ w5 ⟨rfl, n5, kp5, b5⟩; have N5 := hid n5; have B5 := hid (B3.out.trans b5); have XO5 := hid (kp5 _ _ _ XO.out (by decide) (by decide) (by decide) (by decide)); have p0 := (Gr.cell_of_rowU _ _ 0 _ _ _ XO5.out).trans (rfl : _ = some (Value.string ⟨#[116]⟩)); have p1 := (Gr.cell_of_rowU _ _ 1 _ _ _ XO5.out).trans (rfl : _ = some (Value.string us)); clear n5 kp5 b5)
                  | go_in)
                go_roundw
                case rel => exact ⟨k + 1, by have := Hlt.out; omega, by have := hkw.out; omega, by first | rfl | simp, _, v, c, done, rfl, by have := Hd.out; omega, N7.out, HCt.out.next, B7.out⟩
                case measure => exact Gr.measU _ _ _ Hlt.out rfl
              | some a =>
                have HCons := hid (fun (V : World) (q : Nat) (v : Value) (c : Ch) (h : NT V W.heap.size g gc s5 q v c) => (show Calls Tryd.prog 21 #[.pointer (some ⟨g, 0, none⟩), .agg #[.string ⟨#[116]⟩, .string us], .string nm] V fun e w' => e = .returned (.tuple #[.agg #[.string a.t, .string a.u, .string a.n, .int .u8 (a.sc : Int)], .int .i64 0]) ∧ Below V.heap.size V w' from by
                  have h9 := nt_cons h tT us nm (szT _) sus.out snm.out.1
                  rw [hfa] at h9
                  exact h9))
                have HCli := hid (fun (V : World) (q : Nat) (v : Value) (c : Ch) (h : NT V W.heap.size g gc s5 q v c) => (show ∃ cc : Gr.Cl, bits BinOp.and IntKind.u8 (a.sc : Int) (cc.sc : Int) = (a.sc : Int) ∧ Calls Tryd.prog 22 #[.pointer (some ⟨g, 0, none⟩), .string ⟨#[116]⟩, .string nm] V fun e w' => e = .returned (.tuple #[.agg #[.string cc.t, .string cc.n, .string cc.r, .int .u8 (cc.sc : Int)], .int .i64 0]) ∧ Below V.heap.size V w' from by
                  obtain ⟨cc, k1, k2, k3, k4⟩ := cli_of h.sok hfa
                  refine ⟨cc, and_self_u8 _ _ (by omega) (by omega) k2, ?_⟩
                  have h9 := nt_cli h tT nm (szT _) snm.out.1
                  rw [k1] at h9
                  exact h9))
                clear hfa
                go_wp2_with (first
                  | (go_at_call 22; refine HCl2.out.mono ?_; rintro _ w8 ⟨rfl, b8⟩; have N8 := hid ((N7.out.below b8).below ((Below.refl _ w8).alloc (Nat.le_refl _) (.cells #[.string cc.t, .string cc.n, .string cc.r, .int .u8 (cc.sc : Int)] 49))); have B8 := hid ((Gr.Below.on' B7.out b8).alloc (Gr.Below.on' B7.out b8).size (.cells #[.string cc.t, .string cc.n, .string cc.r, .int .u8 (cc.sc : Int)] 49)); have XA8 := (((Below.refl _ w8).alloc (Nat.le_refl _) (.cells #[.string cc.t, .string cc.n, .string cc.r, .int .u8 (cc.sc : Int)] 49)).block _ (Gr.heap_lt ((b8.block _ (Gr.heap_lt XA.out)).trans XA.out))).trans ((b8.block _ (Gr.heap_lt XA.out)).trans XA.out); have pa := (Gr.cell_of_rowU _ _ 3 _ _ _ XA8).trans (rfl : _ = some (Value.int .u8 (a.sc : Int))); have pc := (Gr.cell_of_rowU _ _ 3 _ _ _ (Gr.heap_allocN w8 (.cells #[.string cc.t, .string cc.n, .string cc.r, .int .u8 (cc.sc : Int)] 49))).trans (rfl : _ = some (Value.int .u8 (cc.sc : Int))); clear b8 XA8)
                  | (go_at_call 21; refine (HCons.out _ _ _ _ N5.out).mono ?_; rintro _ w7 ⟨rfl, b7⟩; have N7 := hid ((N5.out.below b7).below ((Below.refl _ w7).alloc (Nat.le_refl _) (.cells #[.string a.t, .string a.u, .string a.n, .int .u8 (a.sc : Int)] 52))); have B7 := hid ((Gr.Below.on' B5.out b7).alloc (Gr.Below.on' B5.out b7).size (.cells #[.string a.t, .string a.u, .string a.n, .int .u8 (a.sc : Int)] 52)); have XA := hid (Gr.heap_allocN w7 (.cells #[.string a.t, .string a.u, .string a.n, .int .u8 (a.sc : Int)] 52)); obtain ⟨cc, hbit, hcl⟩ := HCli.out _ _ _ _ N7.out; have HCl2 := hid hcl; clear b7 p0 p1 hcl)
                  | (go_at_call 17; rw [HY.out]; refine HOp.out.mono ?_; rintro _ w5 ⟨rfl, n5, kp5, b5⟩; have N5 := hid n5; have B5 := hid (B3.out.trans b5); have XO5 := hid (kp5 _ _ _ XO.out (by decide) (by decide) (by decide) (by decide)); have p0 := (Gr.cell_of_rowU _ _ 0 _ _ _ XO5.out).trans (rfl : _ = some (Value.string ⟨#[116]⟩)); have p1 := (Gr.cell_of_rowU _ _ 1 _ _ _ XO5.out).trans (rfl : _ = some (Value.string us)); clear n5 kp5 b5)
                  | go_in)
                go_roundw
                case rel => exact ⟨k + 1, by have := Hlt.out; omega, by have := hkw.out; omega, by first | rfl | simp, _, v, c, done, rfl, by have := Hd.out; omega, N8.out, HCt.out.next, B8.out⟩
                case measure => exact Gr.measU _ _ _ Hlt.out rfl
        · subst h4
          as_aux_lemma =>
            clear hcU
            have m4' : (x : Int) % 4 = 1 := by omega
            clear m4 hy4
            obtain ⟨E, hE⟩ : ∃ E : Nat, E = Gr.allEs s (⟨tT, us, nm, y16⟩ : Gr.Co) := ⟨_, rfl⟩
            obtain ⟨s5, hs5⟩ : ∃ s5, s5 = s.alw (⟨tT, us, nm, y16⟩ : Gr.Co) := ⟨_, rfl⟩
            have HOp := hid (show Calls Tryd.prog 18 #[.pointer (some ⟨g, 0, none⟩), .agg #[.string ⟨#[116]⟩, .string us, .string nm, .int .u8 (y16 : Int)]] Y3.drew fun e w' => e = .returned (.int .i64 (E : Int)) ∧ NT w' W.heap.size g gc s5 (k + 1) v c ∧ Kp Y3 w' ∧ Below W.heap.size Y3 w' from by rw [hE, hs5]; exact (nt_alw (V := Y3.drew) (N3.out.below (Gr.below_dN _ _ 1)) (by have := hkw.out; omega) ⟨tT, us, nm, y16⟩ (szT _) sus.out snm.out.1 z16).mono (fun e w' h => ⟨h.1, h.2.1, h.2.2.1, (Gr.below_dN _ Y3 1).trans h.2.2.2⟩))
            have z3o : Hid (Y3.drew.cell? ⟨wr.heap.size + 2, 0, none⟩ = some (.string ⟨#[116]⟩) ∧ Y3.drew.cell? ⟨wr.heap.size + 2, 1, none⟩ = some (.string us) ∧ Y3.drew.cell? ⟨bb, oo + k, none⟩ = some (.int .u8 (x : Int))) := ⟨(Gr.cell_of_rowU Y3 _ 0 _ _ _ XO.out).trans rfl, (Gr.cell_of_rowU Y3 _ 1 _ _ _ XO.out).trans rfl, by have := c3; rw [HY.out] at this; exact this⟩
            clear hE hs5
            by_cases hE0 : E = 0
            · subst hE0
              cases hfa : Gr.fA s5 tT us nm with
              | none =>
                have HCons := hid (fun (V : World) (q : Nat) (v : Value) (c : Ch) (h : NT V W.heap.size g gc s5 q v c) => (show Calls Tryd.prog 21 #[.pointer (some ⟨g, 0, none⟩), .agg #[.string ⟨#[116]⟩, .string us], .string nm] V fun e w' => e = .returned (.tuple #[.agg #[.string ⟨#[]⟩, .string ⟨#[]⟩, .string ⟨#[]⟩, .int .u8 0], .int .i64 4]) ∧ Below V.heap.size V w' from by
                  have h9 := nt_cons h tT us nm (szT _) sus.out snm.out.1
                  rw [hfa] at h9
                  exact h9))
                clear hfa
                go_wp2
                rw [HY.out]
                go_region_held3 (fun w9 => w9.cell? ⟨wr.heap.size + 2, 0, none⟩ = some (.string ⟨#[116]⟩) ∧ w9.cell? ⟨wr.heap.size + 2, 1, none⟩ = some (.string us) ∧ w9.cell? ⟨bb, oo + k, none⟩ = some (.int .u8 (x : Int)))
                  (first | exact z3o.out | exact z5o.out)
                  ((go_at_call 18; rw [t16.out]; refine HOp.out.mono ?_; rintro _ w5 ⟨rfl, n5, kp5, b5⟩; have N5 := hid n5; have B5 := hid (B3.out.trans b5); have XO5 := hid (kp5 _ _ _ XO.out (by decide) (by decide) (by decide) (by decide)); clear n5 kp5 b5; have z5o : Hid (w5.cell? ⟨wr.heap.size + 2, 0, none⟩ = some (.string ⟨#[116]⟩) ∧ w5.cell? ⟨wr.heap.size + 2, 1, none⟩ = some (.string us) ∧ w5.cell? ⟨bb, oo + k, none⟩ = some (.int .u8 (x : Int))) := ⟨(Gr.cell_of_rowU w5 _ 0 _ _ _ XO5.out).trans rfl, (Gr.cell_of_rowU w5 _ 1 _ _ _ XO5.out).trans rfl, Hc.out w5 B5.out⟩))
                go_wp2_with (first
                  | (go_at_call 21; refine (HCons.out _ _ _ _ N6.out).mono ?_; rintro _ w7 ⟨rfl, b7⟩; have N7 := hid ((N6.out.below b7).below ((Below.refl _ w7).alloc (Nat.le_refl _) (.cells #[.string ⟨#[]⟩, .string ⟨#[]⟩, .string ⟨#[]⟩, .int .u8 0] 52))); have B7 := hid ((Gr.Below.on' B6.out b7).alloc (Gr.Below.on' B6.out b7).size (.cells #[.string ⟨#[]⟩, .string ⟨#[]⟩, .string ⟨#[]⟩, .int .u8 0] 52)); clear b7 p0 p1)
                  | (go_at_call 20; refine (nt_add (what := ⟨#[103, 114, 97, 110, 116]⟩) (who := nm) N5.out HCt.out Hd.out hkw.out (by show 5 ≤ 12; omega) snm.out.2 (HT.out.keep B5.out) B5.out.size).mono ?_; rintro _ w6 ⟨ev, v', c', rfl, n6, ct6, kp6, b6⟩; have N6 := hid (n6.below ((Below.refl _ w6).alloc (Nat.le_refl _) (.cells #[.int .i64 (ev.num : Int), .int .i64 (ev.tim : Int), .string ev.what, .string ev.who] 55))); have CT6 := hid ct6; have B6 := hid ((B5.out.trans b6).alloc (B5.out.trans b6).size (.cells #[.int .i64 (ev.num : Int), .int .i64 (ev.tim : Int), .string ev.what, .string ev.who] 55)); have XO6 := hid ((((Below.refl _ w6).alloc (Nat.le_refl _) (.cells #[.int .i64 (ev.num : Int), .int .i64 (ev.tim : Int), .string ev.what, .string ev.who] 55)).block _ (Gr.heap_lt (kp6 _ _ _ XO5.out (by decide) (by decide) (by decide) (by decide)))).trans (kp6 _ _ _ XO5.out (by decide) (by decide) (by decide) (by decide))); have p0 := (Gr.cell_of_rowU _ _ 0 _ _ _ XO6.out).trans (rfl : _ = some (Value.string ⟨#[116]⟩)); have p1 := (Gr.cell_of_rowU _ _ 1 _ _ _ XO6.out).trans (rfl : _ = some (Value.string us)); clear n6 ct6 kp6 b6)
                  | go_in)
                go_roundw
                case rel => exact ⟨k + 1, by have := Hlt.out; omega, by have := hkw.out; omega, by first | rfl | simp, _, v', c', done + 1, by show Value.int .i64 (wrap64 ((done : Int) + 1)) = _; rw [gdw.out], by have := Hd.out; omega, N7.out, CT6.out, B7.out⟩
                case measure => exact Gr.measU _ _ _ Hlt.out rfl
              | some a =>
                have HCons := hid (fun (V : World) (q : Nat) (v : Value) (c : Ch) (h : NT V W.heap.size g gc s5 q v c) => (show Calls Tryd.prog 21 #[.pointer (some ⟨g, 0, none⟩), .agg #[.string ⟨#[116]⟩, .string us], .string nm] V fun e w' => e = .returned (.tuple #[.agg #[.string a.t, .string a.u, .string a.n, .int .u8 (a.sc : Int)], .int .i64 0]) ∧ Below V.heap.size V w' from by
                  have h9 := nt_cons h tT us nm (szT _) sus.out snm.out.1
                  rw [hfa] at h9
                  exact h9))
                have HCli := hid (fun (V : World) (q : Nat) (v : Value) (c : Ch) (h : NT V W.heap.size g gc s5 q v c) => (show ∃ cc : Gr.Cl, bits BinOp.and IntKind.u8 (a.sc : Int) (cc.sc : Int) = (a.sc : Int) ∧ Calls Tryd.prog 22 #[.pointer (some ⟨g, 0, none⟩), .string ⟨#[116]⟩, .string nm] V fun e w' => e = .returned (.tuple #[.agg #[.string cc.t, .string cc.n, .string cc.r, .int .u8 (cc.sc : Int)], .int .i64 0]) ∧ Below V.heap.size V w' from by
                  obtain ⟨cc, k1, k2, k3, k4⟩ := cli_of h.sok hfa
                  refine ⟨cc, and_self_u8 _ _ (by omega) (by omega) k2, ?_⟩
                  have h9 := nt_cli h tT nm (szT _) snm.out.1
                  rw [k1] at h9
                  exact h9))
                clear hfa
                go_wp2
                rw [HY.out]
                go_region_held3 (fun w9 => w9.cell? ⟨wr.heap.size + 2, 0, none⟩ = some (.string ⟨#[116]⟩) ∧ w9.cell? ⟨wr.heap.size + 2, 1, none⟩ = some (.string us) ∧ w9.cell? ⟨bb, oo + k, none⟩ = some (.int .u8 (x : Int)))
                  (first | exact z3o.out | exact z5o.out)
                  ((go_at_call 18; rw [t16.out]; refine HOp.out.mono ?_; rintro _ w5 ⟨rfl, n5, kp5, b5⟩; have N5 := hid n5; have B5 := hid (B3.out.trans b5); have XO5 := hid (kp5 _ _ _ XO.out (by decide) (by decide) (by decide) (by decide)); clear n5 kp5 b5; have z5o : Hid (w5.cell? ⟨wr.heap.size + 2, 0, none⟩ = some (.string ⟨#[116]⟩) ∧ w5.cell? ⟨wr.heap.size + 2, 1, none⟩ = some (.string us) ∧ w5.cell? ⟨bb, oo + k, none⟩ = some (.int .u8 (x : Int))) := ⟨(Gr.cell_of_rowU w5 _ 0 _ _ _ XO5.out).trans rfl, (Gr.cell_of_rowU w5 _ 1 _ _ _ XO5.out).trans rfl, Hc.out w5 B5.out⟩))
                go_wp2_with (first
                  | (go_at_call 22; refine HCl2.out.mono ?_; rintro _ w8 ⟨rfl, b8⟩; have N8 := hid ((N7.out.below b8).below ((Below.refl _ w8).alloc (Nat.le_refl _) (.cells #[.string cc.t, .string cc.n, .string cc.r, .int .u8 (cc.sc : Int)] 49))); have B8 := hid ((Gr.Below.on' B7.out b8).alloc (Gr.Below.on' B7.out b8).size (.cells #[.string cc.t, .string cc.n, .string cc.r, .int .u8 (cc.sc : Int)] 49)); have XA8 := (((Below.refl _ w8).alloc (Nat.le_refl _) (.cells #[.string cc.t, .string cc.n, .string cc.r, .int .u8 (cc.sc : Int)] 49)).block _ (Gr.heap_lt ((b8.block _ (Gr.heap_lt XA.out)).trans XA.out))).trans ((b8.block _ (Gr.heap_lt XA.out)).trans XA.out); have pa := (Gr.cell_of_rowU _ _ 3 _ _ _ XA8).trans (rfl : _ = some (Value.int .u8 (a.sc : Int))); have pc := (Gr.cell_of_rowU _ _ 3 _ _ _ (Gr.heap_allocN w8 (.cells #[.string cc.t, .string cc.n, .string cc.r, .int .u8 (cc.sc : Int)] 49))).trans (rfl : _ = some (Value.int .u8 (cc.sc : Int))); clear b8 XA8)
                  | (go_at_call 21; refine (HCons.out _ _ _ _ N6.out).mono ?_; rintro _ w7 ⟨rfl, b7⟩; have N7 := hid ((N6.out.below b7).below ((Below.refl _ w7).alloc (Nat.le_refl _) (.cells #[.string a.t, .string a.u, .string a.n, .int .u8 (a.sc : Int)] 52))); have B7 := hid ((Gr.Below.on' B6.out b7).alloc (Gr.Below.on' B6.out b7).size (.cells #[.string a.t, .string a.u, .string a.n, .int .u8 (a.sc : Int)] 52)); have XA := hid (Gr.heap_allocN w7 (.cells #[.string a.t, .string a.u, .string a.n, .int .u8 (a.sc : Int)] 52)); obtain ⟨cc, hbit, hcl⟩ := HCli.out _ _ _ _ N7.out; have HCl2 := hid hcl; clear b7 p0 p1 hcl)
                  | (go_at_call 20; refine (nt_add (what := ⟨#[103, 114, 97, 110, 116]⟩) (who := nm) N5.out HCt.out Hd.out hkw.out (by show 5 ≤ 12; omega) snm.out.2 (HT.out.keep B5.out) B5.out.size).mono ?_; rintro _ w6 ⟨ev, v', c', rfl, n6, ct6, kp6, b6⟩; have N6 := hid (n6.below ((Below.refl _ w6).alloc (Nat.le_refl _) (.cells #[.int .i64 (ev.num : Int), .int .i64 (ev.tim : Int), .string ev.what, .string ev.who] 55))); have CT6 := hid ct6; have B6 := hid ((B5.out.trans b6).alloc (B5.out.trans b6).size (.cells #[.int .i64 (ev.num : Int), .int .i64 (ev.tim : Int), .string ev.what, .string ev.who] 55)); have XO6 := hid ((((Below.refl _ w6).alloc (Nat.le_refl _) (.cells #[.int .i64 (ev.num : Int), .int .i64 (ev.tim : Int), .string ev.what, .string ev.who] 55)).block _ (Gr.heap_lt (kp6 _ _ _ XO5.out (by decide) (by decide) (by decide) (by decide)))).trans (kp6 _ _ _ XO5.out (by decide) (by decide) (by decide) (by decide))); have p0 := (Gr.cell_of_rowU _ _ 0 _ _ _ XO6.out).trans (rfl : _ = some (Value.string ⟨#[116]⟩)); have p1 := (Gr.cell_of_rowU _ _ 1 _ _ _ XO6.out).trans (rfl : _ = some (Value.string us)); clear n6 ct6 kp6 b6)
                  | go_in)
                go_roundw
                case rel => exact ⟨k + 1, by have := Hlt.out; omega, by have := hkw.out; omega, by first | rfl | simp, _, v', c', done + 1, by show Value.int .i64 (wrap64 ((done : Int) + 1)) = _; rw [gdw.out], by have := Hd.out; omega, N8.out, CT6.out, B8.out⟩
                case measure => exact Gr.measU _ _ _ Hlt.out rfl
            · have e0 : ((E : Int) == 0) = false := by simp; omega
              clear hE0
              cases hfa : Gr.fA s5 tT us nm with
              | none =>
                have HCons := hid (fun (V : World) (q : Nat) (v : Value) (c : Ch) (h : NT V W.heap.size g gc s5 q v c) => (show Calls Tryd.prog 21 #[.pointer (some ⟨g, 0, none⟩), .agg #[.string ⟨#[116]⟩, .string us], .string nm] V fun e w' => e = .returned (.tuple #[.agg #[.string ⟨#[]⟩, .string ⟨#[]⟩, .string ⟨#[]⟩, .int .u8 0], .int .i64 4]) ∧ Below V.heap.size V w' from by
                  have h9 := nt_cons h tT us nm (szT _) sus.out snm.out.1
                  rw [hfa] at h9
                  exact h9))
                clear hfa
                go_wp2
                rw [HY.out]
                go_region_held3 (fun w9 => w9.cell? ⟨wr.heap.size + 2, 0, none⟩ = some (.string ⟨#[116]⟩) ∧ w9.cell? ⟨wr.heap.size + 2, 1, none⟩ = some (.string us) ∧ w9.cell? ⟨bb, oo + k, none⟩ = some (.int .u8 (x : Int)))
                  (first | exact z3o.out | exact z5o.out)
                  ((go_at_call 18; rw [t16.out]; refine HOp.out.mono ?_; rintro _ w5 ⟨rfl, n5, kp5, b5⟩; have N5 := hid n5; have B5 := hid (B3.out.trans b5); have XO5 := hid (kp5 _ _ _ XO.out (by decide) (by decide) (by decide) (by decide)); have p0 := (Gr.cell_of_rowU _ _ 0 _ _ _ XO5.out).trans (rfl : _ = some (Value.string ⟨#[116]⟩)); have p1 := (Gr.cell_of_rowU _ _ 1 _ _ _ XO5.out).trans (rfl : _ = some (Value.string us)); clear n5 kp5 b5; have z5o : Hid (w5.cell? ⟨wr.heap.size + 2, 0, none⟩ = some (.string ⟨#[116]⟩) ∧ w5.cell? ⟨wr.heap.size + 2, 1, none⟩ = some (.string us) ∧ w5.cell? ⟨bb, oo + k, none⟩ = some (.int .u8 (x : Int))) := ⟨(Gr.cell_of_rowU w5 _ 0 _ _ _ XO5.out).trans rfl, (Gr.cell_of_rowU w5 _ 1 _ _ _ XO5.out).trans rfl, Hc.out w5 B5.out⟩))
                go_wp2_with (first
                  | (go_at_call 21; refine (HCons.out _ _ _ _ N5.out).mono ?_; rintro _ w7 ⟨rfl, b7⟩; have N7 := hid ((N5.out.below b7).below ((Below.refl _ w7).alloc (Nat.le_refl _) (.cells #[.string ⟨#[]⟩, .string ⟨#[]⟩, .string ⟨#[]⟩, .int .u8 0] 52))); have B7 := hid ((Gr.Below.on' B5.out b7).alloc (Gr.Below.on' B5.out b7).size (.cells #[.string ⟨#[]⟩, .string ⟨#[]⟩, .string ⟨#[]⟩, .int .u8 0] 52)); clear b7 p0 p1)
                  | go_in)
                go_roundw
                case rel => exact ⟨k + 1, by have := Hlt.out; omega, by have := hkw.out; omega, by first | rfl | simp, _, v, c, done, rfl, by have := Hd.out; omega, N7.out, HCt.out.next, B7.out⟩
                case measure => exact Gr.measU _ _ _ Hlt.out rfl
              | some a =>
                have HCons := hid (fun (V : World) (q : Nat) (v : Value) (c : Ch) (h : NT V W.heap.size g gc s5 q v c) => (show Calls Tryd.prog 21 #[.pointer (some ⟨g, 0, none⟩), .agg #[.string ⟨#[116]⟩, .string us], .string nm] V fun e w' => e = .returned (.tuple #[.agg #[.string a.t, .string a.u, .string a.n, .int .u8 (a.sc : Int)], .int .i64 0]) ∧ Below V.heap.size V w' from by
                  have h9 := nt_cons h tT us nm (szT _) sus.out snm.out.1
                  rw [hfa] at h9
                  exact h9))
                have HCli := hid (fun (V : World) (q : Nat) (v : Value) (c : Ch) (h : NT V W.heap.size g gc s5 q v c) => (show ∃ cc : Gr.Cl, bits BinOp.and IntKind.u8 (a.sc : Int) (cc.sc : Int) = (a.sc : Int) ∧ Calls Tryd.prog 22 #[.pointer (some ⟨g, 0, none⟩), .string ⟨#[116]⟩, .string nm] V fun e w' => e = .returned (.tuple #[.agg #[.string cc.t, .string cc.n, .string cc.r, .int .u8 (cc.sc : Int)], .int .i64 0]) ∧ Below V.heap.size V w' from by
                  obtain ⟨cc, k1, k2, k3, k4⟩ := cli_of h.sok hfa
                  refine ⟨cc, and_self_u8 _ _ (by omega) (by omega) k2, ?_⟩
                  have h9 := nt_cli h tT nm (szT _) snm.out.1
                  rw [k1] at h9
                  exact h9))
                clear hfa
                go_wp2
                rw [HY.out]
                go_region_held3 (fun w9 => w9.cell? ⟨wr.heap.size + 2, 0, none⟩ = some (.string ⟨#[116]⟩) ∧ w9.cell? ⟨wr.heap.size + 2, 1, none⟩ = some (.string us) ∧ w9.cell? ⟨bb, oo + k, none⟩ = some (.int .u8 (x : Int)))
                  (first | exact z3o.out | exact z5o.out)
                  ((go_at_call 18; rw [t16.out]; refine HOp.out.mono ?_; rintro _ w5 ⟨rfl, n5, kp5, b5⟩; have N5 := hid n5; have B5 := hid (B3.out.trans b5); have XO5 := hid (kp5 _ _ _ XO.out (by decide) (by decide) (by decide) (by decide)); have p0 := (Gr.cell_of_rowU _ _ 0 _ _ _ XO5.out).trans (rfl : _ = some (Value.string ⟨#[116]⟩)); have p1 := (Gr.cell_of_rowU _ _ 1 _ _ _ XO5.out).trans (rfl : _ = some (Value.string us)); clear n5 kp5 b5; have z5o : Hid (w5.cell? ⟨wr.heap.size + 2, 0, none⟩ = some (.string ⟨#[116]⟩) ∧ w5.cell? ⟨wr.heap.size + 2, 1, none⟩ = some (.string us) ∧ w5.cell? ⟨bb, oo + k, none⟩ = some (.int .u8 (x : Int))) := ⟨(Gr.cell_of_rowU w5 _ 0 _ _ _ XO5.out).trans rfl, (Gr.cell_of_rowU w5 _ 1 _ _ _ XO5.out).trans rfl, Hc.out w5 B5.out⟩))
                go_wp2_with (first
                  | (go_at_call 22; refine HCl2.out.mono ?_; rintro _ w8 ⟨rfl, b8⟩; have N8 := hid ((N7.out.below b8).below ((Below.refl _ w8).alloc (Nat.le_refl _) (.cells #[.string cc.t, .string cc.n, .string cc.r, .int .u8 (cc.sc : Int)] 49))); have B8 := hid ((Gr.Below.on' B7.out b8).alloc (Gr.Below.on' B7.out b8).size (.cells #[.string cc.t, .string cc.n, .string cc.r, .int .u8 (cc.sc : Int)] 49)); have XA8 := (((Below.refl _ w8).alloc (Nat.le_refl _) (.cells #[.string cc.t, .string cc.n, .string cc.r, .int .u8 (cc.sc : Int)] 49)).block _ (Gr.heap_lt ((b8.block _ (Gr.heap_lt XA.out)).trans XA.out))).trans ((b8.block _ (Gr.heap_lt XA.out)).trans XA.out); have pa := (Gr.cell_of_rowU _ _ 3 _ _ _ XA8).trans (rfl : _ = some (Value.int .u8 (a.sc : Int))); have pc := (Gr.cell_of_rowU _ _ 3 _ _ _ (Gr.heap_allocN w8 (.cells #[.string cc.t, .string cc.n, .string cc.r, .int .u8 (cc.sc : Int)] 49))).trans (rfl : _ = some (Value.int .u8 (cc.sc : Int))); clear b8 XA8)
                  | (go_at_call 21; refine (HCons.out _ _ _ _ N5.out).mono ?_; rintro _ w7 ⟨rfl, b7⟩; have N7 := hid ((N5.out.below b7).below ((Below.refl _ w7).alloc (Nat.le_refl _) (.cells #[.string a.t, .string a.u, .string a.n, .int .u8 (a.sc : Int)] 52))); have B7 := hid ((Gr.Below.on' B5.out b7).alloc (Gr.Below.on' B5.out b7).size (.cells #[.string a.t, .string a.u, .string a.n, .int .u8 (a.sc : Int)] 52)); have XA := hid (Gr.heap_allocN w7 (.cells #[.string a.t, .string a.u, .string a.n, .int .u8 (a.sc : Int)] 52)); obtain ⟨cc, hbit, hcl⟩ := HCli.out _ _ _ _ N7.out; have HCl2 := hid hcl; clear b7 p0 p1 hcl)
                  | go_in)
                go_roundw
                case rel => exact ⟨k + 1, by have := Hlt.out; omega, by have := hkw.out; omega, by first | rfl | simp, _, v, c, done, rfl, by have := Hd.out; omega, N8.out, HCt.out.next, B8.out⟩
                case measure => exact Gr.measU _ _ _ Hlt.out rfl
        · subst h4
          as_aux_lemma =>
            clear hcU
            have m4' : (x : Int) % 4 = 2 := by omega
            clear m4 hy4
            obtain ⟨E, hE⟩ : ∃ E : Nat, E = Gr.allEs s (⟨tT, us, nm, y16⟩ : Gr.Co) := ⟨_, rfl⟩
            obtain ⟨s5, hs5⟩ : ∃ s5, s5 = s.alw (⟨tT, us, nm, y16⟩ : Gr.Co) := ⟨_, rfl⟩
            have HOp := hid (show Calls Tryd.prog 18 #[.pointer (some ⟨g, 0, none⟩), .agg #[.string ⟨#[116]⟩, .string us, .string nm, .int .u8 (y16 : Int)]] Y3.drew fun e w' => e = .returned (.int .i64 (E : Int)) ∧ NT w' W.heap.size g gc s5 (k + 1) v c ∧ Kp Y3 w' ∧ Below W.heap.size Y3 w' from by rw [hE, hs5]; exact (nt_alw (V := Y3.drew) (N3.out.below (Gr.below_dN _ _ 1)) (by have := hkw.out; omega) ⟨tT, us, nm, y16⟩ (szT _) sus.out snm.out.1 z16).mono (fun e w' h => ⟨h.1, h.2.1, h.2.2.1, (Gr.below_dN _ Y3 1).trans h.2.2.2⟩))
            have z3o : Hid (Y3.drew.cell? ⟨wr.heap.size + 2, 0, none⟩ = some (.string ⟨#[116]⟩) ∧ Y3.drew.cell? ⟨wr.heap.size + 2, 1, none⟩ = some (.string us) ∧ Y3.drew.cell? ⟨bb, oo + k, none⟩ = some (.int .u8 (x : Int))) := ⟨(Gr.cell_of_rowU Y3 _ 0 _ _ _ XO.out).trans rfl, (Gr.cell_of_rowU Y3 _ 1 _ _ _ XO.out).trans rfl, by have := c3; rw [HY.out] at this; exact this⟩
            clear hE hs5
            by_cases hE0 : E = 0
            · subst hE0
              cases hfa : Gr.fA s5 tT us nm with
              | none =>
                have HCons := hid (fun (V : World) (q : Nat) (v : Value) (c : Ch) (h : NT V W.heap.size g gc s5 q v c) => (show Calls Tryd.prog 21 #[.pointer (some ⟨g, 0, none⟩), .agg #[.string ⟨#[116]⟩, .string us], .string nm] V fun e w' => e = .returned (.tuple #[.agg #[.string ⟨#[]⟩, .string ⟨#[]⟩, .string ⟨#[]⟩, .int .u8 0], .int .i64 4]) ∧ Below V.heap.size V w' from by
                  have h9 := nt_cons h tT us nm (szT _) sus.out snm.out.1
                  rw [hfa] at h9
                  exact h9))
                clear hfa
                go_wp2
                rw [HY.out]
                go_region_held3 (fun w9 => w9.cell? ⟨wr.heap.size + 2, 0, none⟩ = some (.string ⟨#[116]⟩) ∧ w9.cell? ⟨wr.heap.size + 2, 1, none⟩ = some (.string us) ∧ w9.cell? ⟨bb, oo + k, none⟩ = some (.int .u8 (x : Int)))
                  (first | exact z3o.out | exact z5o.out)
                  ((go_at_call 18; rw [t16.out]; refine HOp.out.mono ?_; rintro _ w5 ⟨rfl, n5, kp5, b5⟩; have N5 := hid n5; have B5 := hid (B3.out.trans b5); have XO5 := hid (kp5 _ _ _ XO.out (by decide) (by decide) (by decide) (by decide)); clear n5 kp5 b5; have z5o : Hid (w5.cell? ⟨wr.heap.size + 2, 0, none⟩ = some (.string ⟨#[116]⟩) ∧ w5.cell? ⟨wr.heap.size + 2, 1, none⟩ = some (.string us) ∧ w5.cell? ⟨bb, oo + k, none⟩ = some (.int .u8 (x : Int))) := ⟨(Gr.cell_of_rowU w5 _ 0 _ _ _ XO5.out).trans rfl, (Gr.cell_of_rowU w5 _ 1 _ _ _ XO5.out).trans rfl, Hc.out w5 B5.out⟩))
                go_wp2_with (first
                  | (go_at_call 21; refine (HCons.out _ _ _ _ N6.out).mono ?_; rintro _ w7 ⟨rfl, b7⟩; have N7 := hid ((N6.out.below b7).below ((Below.refl _ w7).alloc (Nat.le_refl _) (.cells #[.string ⟨#[]⟩, .string ⟨#[]⟩, .string ⟨#[]⟩, .int .u8 0] 52))); have B7 := hid ((Gr.Below.on' B6.out b7).alloc (Gr.Below.on' B6.out b7).size (.cells #[.string ⟨#[]⟩, .string ⟨#[]⟩, .string ⟨#[]⟩, .int .u8 0] 52)); clear b7 p0 p1)
                  | (go_at_call 20; refine (nt_add (what := ⟨#[103, 114, 97, 110, 116]⟩) (who := nm) N5.out HCt.out Hd.out hkw.out (by show 5 ≤ 12; omega) snm.out.2 (HT.out.keep B5.out) B5.out.size).mono ?_; rintro _ w6 ⟨ev, v', c', rfl, n6, ct6, kp6, b6⟩; have N6 := hid (n6.below ((Below.refl _ w6).alloc (Nat.le_refl _) (.cells #[.int .i64 (ev.num : Int), .int .i64 (ev.tim : Int), .string ev.what, .string ev.who] 55))); have CT6 := hid ct6; have B6 := hid ((B5.out.trans b6).alloc (B5.out.trans b6).size (.cells #[.int .i64 (ev.num : Int), .int .i64 (ev.tim : Int), .string ev.what, .string ev.who] 55)); have XO6 := hid ((((Below.refl _ w6).alloc (Nat.le_refl _) (.cells #[.int .i64 (ev.num : Int), .int .i64 (ev.tim : Int), .string ev.what, .string ev.who] 55)).block _ (Gr.heap_lt (kp6 _ _ _ XO5.out (by decide) (by decide) (by decide) (by decide)))).trans (kp6 _ _ _ XO5.out (by decide) (by decide) (by decide) (by decide))); have p0 := (Gr.cell_of_rowU _ _ 0 _ _ _ XO6.out).trans (rfl : _ = some (Value.string ⟨#[116]⟩)); have p1 := (Gr.cell_of_rowU _ _ 1 _ _ _ XO6.out).trans (rfl : _ = some (Value.string us)); clear n6 ct6 kp6 b6)
                  | go_in)
                go_roundw
                case rel => exact ⟨k + 1, by have := Hlt.out; omega, by have := hkw.out; omega, by first | rfl | simp, _, v', c', done + 1, by show Value.int .i64 (wrap64 ((done : Int) + 1)) = _; rw [gdw.out], by have := Hd.out; omega, N7.out, CT6.out, B7.out⟩
                case measure => exact Gr.measU _ _ _ Hlt.out rfl
              | some a =>
                have HCons := hid (fun (V : World) (q : Nat) (v : Value) (c : Ch) (h : NT V W.heap.size g gc s5 q v c) => (show Calls Tryd.prog 21 #[.pointer (some ⟨g, 0, none⟩), .agg #[.string ⟨#[116]⟩, .string us], .string nm] V fun e w' => e = .returned (.tuple #[.agg #[.string a.t, .string a.u, .string a.n, .int .u8 (a.sc : Int)], .int .i64 0]) ∧ Below V.heap.size V w' from by
                  have h9 := nt_cons h tT us nm (szT _) sus.out snm.out.1
                  rw [hfa] at h9
                  exact h9))
                have HCli := hid (fun (V : World) (q : Nat) (v : Value) (c : Ch) (h : NT V W.heap.size g gc s5 q v c) => (show ∃ cc : Gr.Cl, bits BinOp.and IntKind.u8 (a.sc : Int) (cc.sc : Int) = (a.sc : Int) ∧ Calls Tryd.prog 22 #[.pointer (some ⟨g, 0, none⟩), .string ⟨#[116]⟩, .string nm] V fun e w' => e = .returned (.tuple #[.agg #[.string cc.t, .string cc.n, .string cc.r, .int .u8 (cc.sc : Int)], .int .i64 0]) ∧ Below V.heap.size V w' from by
                  obtain ⟨cc, k1, k2, k3, k4⟩ := cli_of h.sok hfa
                  refine ⟨cc, and_self_u8 _ _ (by omega) (by omega) k2, ?_⟩
                  have h9 := nt_cli h tT nm (szT _) snm.out.1
                  rw [k1] at h9
                  exact h9))
                clear hfa
                go_wp2
                rw [HY.out]
                go_region_held3 (fun w9 => w9.cell? ⟨wr.heap.size + 2, 0, none⟩ = some (.string ⟨#[116]⟩) ∧ w9.cell? ⟨wr.heap.size + 2, 1, none⟩ = some (.string us) ∧ w9.cell? ⟨bb, oo + k, none⟩ = some (.int .u8 (x : Int)))
                  (first | exact z3o.out | exact z5o.out)
                  ((go_at_call 18; rw [t16.out]; refine HOp.out.mono ?_; rintro _ w5 ⟨rfl, n5, kp5, b5⟩; have N5 := hid n5; have B5 := hid (B3.out.trans b5); have XO5 := hid (kp5 _ _ _ XO.out (by decide) (by decide) (by decide) (by decide)); clear n5 kp5 b5; have z5o : Hid (w5.cell? ⟨wr.heap.size + 2, 0, none⟩ = some (.string ⟨#[116]⟩) ∧ w5.cell? ⟨wr.heap.size + 2, 1, none⟩ = some (.string us) ∧ w5.cell? ⟨bb, oo + k, none⟩ = some (.int .u8 (x : Int))) := ⟨(Gr.cell_of_rowU w5 _ 0 _ _ _ XO5.out).trans rfl, (Gr.cell_of_rowU w5 _ 1 _ _ _ XO5.out).trans rfl, Hc.out w5 B5.out⟩))
                go_wp2_with (first
                  | (go_at_call 22; refine HCl2.out.mono ?_; rintro _ w8 ⟨rfl, b8⟩; have N8 := hid ((N7.out.below b8).below ((Below.refl _ w8).alloc (Nat.le_refl _) (.cells #[.string cc.t, .string cc.n, .string cc.r, .int .u8 (cc.sc : Int)] 49))); have B8 := hid ((Gr.Below.on' B7.out b8).alloc (Gr.Below.on' B7.out b8).size (.cells #[.string cc.t, .string cc.n, .string cc.r, .int .u8 (cc.sc : Int)] 49)); have XA8 := (((Below.refl _ w8).alloc (Nat.le_refl _) (.cells #[.string cc.t, .string cc.n, .string cc.r, .int .u8 (cc.sc : Int)] 49)).block _ (Gr.heap_lt ((b8.block _ (Gr.heap_lt XA.out)).trans XA.out))).trans ((b8.block _ (Gr.heap_lt XA.out)).trans XA.out); have pa := (Gr.cell_of_rowU _ _ 3 _ _ _ XA8).trans (rfl : _ = some (Value.int .u8 (a.sc : Int))); have pc := (Gr.cell_of_rowU _ _ 3 _ _ _ (Gr.heap_allocN w8 (.cells #[.string cc.t, .string cc.n, .string cc.r, .int .u8 (cc.sc : Int)] 49))).trans (rfl : _ = some (Value.int .u8 (cc.sc : Int))); clear b8 XA8)
                  | (go_at_call 21; refine (HCons.out _ _ _ _ N6.out).mono ?_; rintro _ w7 ⟨rfl, b7⟩; have N7 := hid ((N6.out.below b7).below ((Below.refl _ w7).alloc (Nat.le_refl _) (.cells #[.string a.t, .string a.u, .string a.n, .int .u8 (a.sc : Int)] 52))); have B7 := hid ((Gr.Below.on' B6.out b7).alloc (Gr.Below.on' B6.out b7).size (.cells #[.string a.t, .string a.u, .string a.n, .int .u8 (a.sc : Int)] 52)); have XA := hid (Gr.heap_allocN w7 (.cells #[.string a.t, .string a.u, .string a.n, .int .u8 (a.sc : Int)] 52)); obtain ⟨cc, hbit, hcl⟩ := HCli.out _ _ _ _ N7.out; have HCl2 := hid hcl; clear b7 p0 p1 hcl)
                  | (go_at_call 20; refine (nt_add (what := ⟨#[103, 114, 97, 110, 116]⟩) (who := nm) N5.out HCt.out Hd.out hkw.out (by show 5 ≤ 12; omega) snm.out.2 (HT.out.keep B5.out) B5.out.size).mono ?_; rintro _ w6 ⟨ev, v', c', rfl, n6, ct6, kp6, b6⟩; have N6 := hid (n6.below ((Below.refl _ w6).alloc (Nat.le_refl _) (.cells #[.int .i64 (ev.num : Int), .int .i64 (ev.tim : Int), .string ev.what, .string ev.who] 55))); have CT6 := hid ct6; have B6 := hid ((B5.out.trans b6).alloc (B5.out.trans b6).size (.cells #[.int .i64 (ev.num : Int), .int .i64 (ev.tim : Int), .string ev.what, .string ev.who] 55)); have XO6 := hid ((((Below.refl _ w6).alloc (Nat.le_refl _) (.cells #[.int .i64 (ev.num : Int), .int .i64 (ev.tim : Int), .string ev.what, .string ev.who] 55)).block _ (Gr.heap_lt (kp6 _ _ _ XO5.out (by decide) (by decide) (by decide) (by decide)))).trans (kp6 _ _ _ XO5.out (by decide) (by decide) (by decide) (by decide))); have p0 := (Gr.cell_of_rowU _ _ 0 _ _ _ XO6.out).trans (rfl : _ = some (Value.string ⟨#[116]⟩)); have p1 := (Gr.cell_of_rowU _ _ 1 _ _ _ XO6.out).trans (rfl : _ = some (Value.string us)); clear n6 ct6 kp6 b6)
                  | go_in)
                go_roundw
                case rel => exact ⟨k + 1, by have := Hlt.out; omega, by have := hkw.out; omega, by first | rfl | simp, _, v', c', done + 1, by show Value.int .i64 (wrap64 ((done : Int) + 1)) = _; rw [gdw.out], by have := Hd.out; omega, N8.out, CT6.out, B8.out⟩
                case measure => exact Gr.measU _ _ _ Hlt.out rfl
            · have e0 : ((E : Int) == 0) = false := by simp; omega
              clear hE0
              cases hfa : Gr.fA s5 tT us nm with
              | none =>
                have HCons := hid (fun (V : World) (q : Nat) (v : Value) (c : Ch) (h : NT V W.heap.size g gc s5 q v c) => (show Calls Tryd.prog 21 #[.pointer (some ⟨g, 0, none⟩), .agg #[.string ⟨#[116]⟩, .string us], .string nm] V fun e w' => e = .returned (.tuple #[.agg #[.string ⟨#[]⟩, .string ⟨#[]⟩, .string ⟨#[]⟩, .int .u8 0], .int .i64 4]) ∧ Below V.heap.size V w' from by
                  have h9 := nt_cons h tT us nm (szT _) sus.out snm.out.1
                  rw [hfa] at h9
                  exact h9))
                clear hfa
                go_wp2
                rw [HY.out]
                go_region_held3 (fun w9 => w9.cell? ⟨wr.heap.size + 2, 0, none⟩ = some (.string ⟨#[116]⟩) ∧ w9.cell? ⟨wr.heap.size + 2, 1, none⟩ = some (.string us) ∧ w9.cell? ⟨bb, oo + k, none⟩ = some (.int .u8 (x : Int)))
                  (first | exact z3o.out | exact z5o.out)
                  ((go_at_call 18; rw [t16.out]; refine HOp.out.mono ?_; rintro _ w5 ⟨rfl, n5, kp5, b5⟩; have N5 := hid n5; have B5 := hid (B3.out.trans b5); have XO5 := hid (kp5 _ _ _ XO.out (by decide) (by decide) (by decide) (by decide)); have p0 := (Gr.cell_of_rowU _ _ 0 _ _ _ XO5.out).trans (rfl : _ = some (Value.string ⟨#[116]⟩)); have p1 := (Gr.cell_of_rowU _ _ 1 _ _ _ XO5.out).trans (rfl : _ = some (Value.string us)); clear n5 kp5 b5; have z5o : Hid (w5.cell? ⟨wr.heap.size + 2, 0, none⟩ = some (.string ⟨#[116]⟩) ∧ w5.cell? ⟨wr.heap.size + 2, 1, none⟩ = some (.string us) ∧ w5.cell? ⟨bb, oo + k, none⟩ = some (.int .u8 (x : Int))) := ⟨(Gr.cell_of_rowU w5 _ 0 _ _ _ XO5.out).trans rfl, (Gr.cell_of_rowU w5 _ 1 _ _ _ XO5.out).trans rfl, Hc.out w5 B5.out⟩))
                go_wp2_with (first
                  | (go_at_call 21; refine (HCons.out _ _ _ _ N5.out).mono ?_; rintro _ w7 ⟨rfl, b7⟩; have N7 := hid ((N5.out.below b7).below ((Below.refl _ w7).alloc (Nat.le_refl _) (.cells #[.string ⟨#[]⟩, .string ⟨#[]⟩, .string ⟨#[]⟩, .int .u8 0] 52))); have B7 := hid ((Gr.Below.on' B5.out b7).alloc (Gr.Below.on' B5.out b7).size (.cells #[.string ⟨#[]⟩, .string ⟨#[]⟩, .string ⟨#[]⟩, .int .u8 0] 52)); clear b7 p0 p1)
                  | go_in)
                go_roundw
                case rel => exact ⟨k + 1, by have := Hlt.out; omega, by have := hkw.out; omega, by first | rfl | simp, _, v, c, done, rfl, by have := Hd.out; omega, N7.out, HCt.out.next, B7.out⟩
                case measure => exact Gr.measU _ _ _ Hlt.out rfl
              | some a =>
                have HCons := hid (fun (V : World) (q : Nat) (v : Value) (c : Ch) (h : NT V W.heap.size g gc s5 q v c) => (show Calls Tryd.prog 21 #[.pointer (some ⟨g, 0, none⟩), .agg #[.string ⟨#[116]⟩, .string us], .string nm] V fun e w' => e = .returned (.tuple #[.agg #[.string a.t, .string a.u, .string a.n, .int .u8 (a.sc : Int)], .int .i64 0]) ∧ Below V.heap.size V w' from by
                  have h9 := nt_cons h tT us nm (szT _) sus.out snm.out.1
                  rw [hfa] at h9
                  exact h9))
                have HCli := hid (fun (V : World) (q : Nat) (v : Value) (c : Ch) (h : NT V W.heap.size g gc s5 q v c) => (show ∃ cc : Gr.Cl, bits BinOp.and IntKind.u8 (a.sc : Int) (cc.sc : Int) = (a.sc : Int) ∧ Calls Tryd.prog 22 #[.pointer (some ⟨g, 0, none⟩), .string ⟨#[116]⟩, .string nm] V fun e w' => e = .returned (.tuple #[.agg #[.string cc.t, .string cc.n, .string cc.r, .int .u8 (cc.sc : Int)], .int .i64 0]) ∧ Below V.heap.size V w' from by
                  obtain ⟨cc, k1, k2, k3, k4⟩ := cli_of h.sok hfa
                  refine ⟨cc, and_self_u8 _ _ (by omega) (by omega) k2, ?_⟩
                  have h9 := nt_cli h tT nm (szT _) snm.out.1
                  rw [k1] at h9
                  exact h9))
                clear hfa
                go_wp2
                rw [HY.out]
                go_region_held3 (fun w9 => w9.cell? ⟨wr.heap.size + 2, 0, none⟩ = some (.string ⟨#[116]⟩) ∧ w9.cell? ⟨wr.heap.size + 2, 1, none⟩ = some (.string us) ∧ w9.cell? ⟨bb, oo + k, none⟩ = some (.int .u8 (x : Int)))
                  (first | exact z3o.out | exact z5o.out)
                  ((go_at_call 18; rw [t16.out]; refine HOp.out.mono ?_; rintro _ w5 ⟨rfl, n5, kp5, b5⟩; have N5 := hid n5; have B5 := hid (B3.out.trans b5); have XO5 := hid (kp5 _ _ _ XO.out (by decide) (by decide) (by decide) (by decide)); have p0 := (Gr.cell_of_rowU _ _ 0 _ _ _ XO5.out).trans (rfl : _ = some (Value.string ⟨#[116]⟩)); have p1 := (Gr.cell_of_rowU _ _ 1 _ _ _ XO5.out).trans (rfl : _ = some (Value.string us)); clear n5 kp5 b5; have z5o : Hid (w5.cell? ⟨wr.heap.size + 2, 0, none⟩ = some (.string ⟨#[116]⟩) ∧ w5.cell? ⟨wr.heap.size + 2, 1, none⟩ = some (.string us) ∧ w5.cell? ⟨bb, oo + k, none⟩ = some (.int .u8 (x : Int))) := ⟨(Gr.cell_of_rowU w5 _ 0 _ _ _ XO5.out).trans rfl, (Gr.cell_of_rowU w5 _ 1 _ _ _ XO5.out).trans rfl, Hc.out w5 B5.out⟩))
                go_wp2_with (first
                  | (go_at_call 22; refine HCl2.out.mono ?_; rintro _ w8 ⟨rfl, b8⟩; have N8 := hid ((N7.out.below b8).below ((Below.refl _ w8).alloc (Nat.le_refl _) (.cells #[.string cc.t, .string cc.n, .string cc.r, .int .u8 (cc.sc : Int)] 49))); have B8 := hid ((Gr.Below.on' B7.out b8).alloc (Gr.Below.on' B7.out b8).size (.cells #[.string cc.t, .string cc.n, .string cc.r, .int .u8 (cc.sc : Int)] 49)); have XA8 := (((Below.refl _ w8).alloc (Nat.le_refl _) (.cells #[.string cc.t, .string cc.n, .string cc.r, .int .u8 (cc.sc : Int)] 49)).block _ (Gr.heap_lt ((b8.block _ (Gr.heap_lt XA.out)).trans XA.out))).trans ((b8.block _ (Gr.heap_lt XA.out)).trans XA.out); have pa := (Gr.cell_of_rowU _ _ 3 _ _ _ XA8).trans (rfl : _ = some (Value.int .u8 (a.sc : Int))); have pc := (Gr.cell_of_rowU _ _ 3 _ _ _ (Gr.heap_allocN w8 (.cells #[.string cc.t, .string cc.n, .string cc.r, .int .u8 (cc.sc : Int)] 49))).trans (rfl : _ = some (Value.int .u8 (cc.sc : Int))); clear b8 XA8)
                  | (go_at_call 21; refine (HCons.out _ _ _ _ N5.out).mono ?_; rintro _ w7 ⟨rfl, b7⟩; have N7 := hid ((N5.out.below b7).below ((Below.refl _ w7).alloc (Nat.le_refl _) (.cells #[.string a.t, .string a.u, .string a.n, .int .u8 (a.sc : Int)] 52))); have B7 := hid ((Gr.Below.on' B5.out b7).alloc (Gr.Below.on' B5.out b7).size (.cells #[.string a.t, .string a.u, .string a.n, .int .u8 (a.sc : Int)] 52)); have XA := hid (Gr.heap_allocN w7 (.cells #[.string a.t, .string a.u, .string a.n, .int .u8 (a.sc : Int)] 52)); obtain ⟨cc, hbit, hcl⟩ := HCli.out _ _ _ _ N7.out; have HCl2 := hid hcl; clear b7 p0 p1 hcl)
                  | go_in)
                go_roundw
                case rel => exact ⟨k + 1, by have := Hlt.out; omega, by have := hkw.out; omega, by first | rfl | simp, _, v, c, done, rfl, by have := Hd.out; omega, N8.out, HCt.out.next, B8.out⟩
                case measure => exact Gr.measU _ _ _ Hlt.out rfl
        · subst h4
          as_aux_lemma =>
            clear hcU
            have m4' : (x : Int) % 4 = 3 := by omega
            clear m4 hy4
            obtain ⟨E, hE⟩ : ∃ E : Nat, (E : Int) = Gr.noneE (Gr.findC s tT nm).isSome := by unfold Gr.noneE; split; exact ⟨0, rfl⟩; exact ⟨4, rfl⟩
            obtain ⟨s5, hs5⟩ : ∃ s5, s5 = s.dropC tT nm := ⟨_, rfl⟩
            have HOp := hid (show Calls Tryd.prog 19 #[.pointer (some ⟨g, 0, none⟩), .string ⟨#[116]⟩, .string nm] Y3 fun e w' => e = .returned (.int .i64 (E : Int)) ∧ NT w' W.heap.size g gc s5 (k + 1) v c ∧ Kp Y3 w' ∧ Below W.heap.size Y3 w' from by rw [hE, hs5]; exact nt_drp N3.out tT nm (szT _) snm.out.1)
            clear hE hs5
            by_cases hE0 : E = 0
            · subst hE0
              cases hfa : Gr.fA s5 tT us nm with
              | none =>
                have HCons := hid (fun (V : World) (q : Nat) (v : Value) (c : Ch) (h : NT V W.heap.size g gc s5 q v c) => (show Calls Tryd.prog 21 #[.pointer (some ⟨g, 0, none⟩), .agg #[.string ⟨#[116]⟩, .string us], .string nm] V fun e w' => e = .returned (.tuple #[.agg #[.string ⟨#[]⟩, .string ⟨#[]⟩, .string ⟨#[]⟩, .int .u8 0], .int .i64 4]) ∧ Below V.heap.size V w' from by
                  have h9 := nt_cons h tT us nm (szT _) sus.out snm.out.1
                  rw [hfa] at h9
                  exact h9))
                clear hfa
                go_wp2_with (first
                  | (go_at_call 21; refine (HCons.out _ _ _ _ N6.out).mono ?_; rintro _ w7 ⟨rfl, b7⟩; have N7 := hid ((N6.out.below b7).below ((Below.refl _ w7).alloc (Nat.le_refl _) (.cells #[.string ⟨#[]⟩, .string ⟨#[]⟩, .string ⟨#[]⟩, .int .u8 0] 52))); have B7 := hid ((Gr.Below.on' B6.out b7).alloc (Gr.Below.on' B6.out b7).size (.cells #[.string ⟨#[]⟩, .string ⟨#[]⟩, .string ⟨#[]⟩, .int .u8 0] 52)); clear b7 p0 p1)
                  | (go_at_call 20; refine (nt_add (what := ⟨#[103, 114, 97, 110, 116]⟩) (who := nm) N5.out HCt.out Hd.out hkw.out (by show 5 ≤ 12; omega) snm.out.2 (HT.out.keep B5.out) B5.out.size).mono ?_; rintro _ w6 ⟨ev, v', c', rfl, n6, ct6, kp6, b6⟩; have N6 := hid (n6.below ((Below.refl _ w6).alloc (Nat.le_refl _) (.cells #[.int .i64 (ev.num : Int), .int .i64 (ev.tim : Int), .string ev.what, .string ev.who] 55))); have CT6 := hid ct6; have B6 := hid ((B5.out.trans b6).alloc (B5.out.trans b6).size (.cells #[.int .i64 (ev.num : Int), .int .i64 (ev.tim : Int), .string ev.what, .string ev.who] 55)); have XO6 := hid ((((Below.refl _ w6).alloc (Nat.le_refl _) (.cells #[.int .i64 (ev.num : Int), .int .i64 (ev.tim : Int), .string ev.what, .string ev.who] 55)).block _ (Gr.heap_lt (kp6 _ _ _ XO5.out (by decide) (by decide) (by decide) (by decide)))).trans (kp6 _ _ _ XO5.out (by decide) (by decide) (by decide) (by decide))); have p0 := (Gr.cell_of_rowU _ _ 0 _ _ _ XO6.out).trans (rfl : _ = some (Value.string ⟨#[116]⟩)); have p1 := (Gr.cell_of_rowU _ _ 1 _ _ _ XO6.out).trans (rfl : _ = some (Value.string us)); clear n6 ct6 kp6 b6)
                  | (go_at_call 19; rw [HY.out]; refine HOp.out.mono ?_; rintro _ w5 ⟨rfl, n5, kp5, b5⟩; have N5 := hid n5; have B5 := hid (B3.out.trans b5); have XO5 := hid (kp5 _ _ _ XO.out (by decide) (by decide) (by decide) (by decide)); clear n5 kp5 b5)
                  | go_in)
                go_roundw
                case rel => exact ⟨k + 1, by have := Hlt.out; omega, by have := hkw.out; omega, by first | rfl | simp, _, v', c', done + 1, by show Value.int .i64 (wrap64 ((done : Int) + 1)) = _; rw [gdw.out], by have := Hd.out; omega, N7.out, CT6.out, B7.out⟩
                case measure => exact Gr.measU _ _ _ Hlt.out rfl
              | some a =>
                have HCons := hid (fun (V : World) (q : Nat) (v : Value) (c : Ch) (h : NT V W.heap.size g gc s5 q v c) => (show Calls Tryd.prog 21 #[.pointer (some ⟨g, 0, none⟩), .agg #[.string ⟨#[116]⟩, .string us], .string nm] V fun e w' => e = .returned (.tuple #[.agg #[.string a.t, .string a.u, .string a.n, .int .u8 (a.sc : Int)], .int .i64 0]) ∧ Below V.heap.size V w' from by
                  have h9 := nt_cons h tT us nm (szT _) sus.out snm.out.1
                  rw [hfa] at h9
                  exact h9))
                have HCli := hid (fun (V : World) (q : Nat) (v : Value) (c : Ch) (h : NT V W.heap.size g gc s5 q v c) => (show ∃ cc : Gr.Cl, bits BinOp.and IntKind.u8 (a.sc : Int) (cc.sc : Int) = (a.sc : Int) ∧ Calls Tryd.prog 22 #[.pointer (some ⟨g, 0, none⟩), .string ⟨#[116]⟩, .string nm] V fun e w' => e = .returned (.tuple #[.agg #[.string cc.t, .string cc.n, .string cc.r, .int .u8 (cc.sc : Int)], .int .i64 0]) ∧ Below V.heap.size V w' from by
                  obtain ⟨cc, k1, k2, k3, k4⟩ := cli_of h.sok hfa
                  refine ⟨cc, and_self_u8 _ _ (by omega) (by omega) k2, ?_⟩
                  have h9 := nt_cli h tT nm (szT _) snm.out.1
                  rw [k1] at h9
                  exact h9))
                clear hfa
                go_wp2_with (first
                  | (go_at_call 22; refine HCl2.out.mono ?_; rintro _ w8 ⟨rfl, b8⟩; have N8 := hid ((N7.out.below b8).below ((Below.refl _ w8).alloc (Nat.le_refl _) (.cells #[.string cc.t, .string cc.n, .string cc.r, .int .u8 (cc.sc : Int)] 49))); have B8 := hid ((Gr.Below.on' B7.out b8).alloc (Gr.Below.on' B7.out b8).size (.cells #[.string cc.t, .string cc.n, .string cc.r, .int .u8 (cc.sc : Int)] 49)); have XA8 := (((Below.refl _ w8).alloc (Nat.le_refl _) (.cells #[.string cc.t, .string cc.n, .string cc.r, .int .u8 (cc.sc : Int)] 49)).block _ (Gr.heap_lt ((b8.block _ (Gr.heap_lt XA.out)).trans XA.out))).trans ((b8.block _ (Gr.heap_lt XA.out)).trans XA.out); have pa := (Gr.cell_of_rowU _ _ 3 _ _ _ XA8).trans (rfl : _ = some (Value.int .u8 (a.sc : Int))); have pc := (Gr.cell_of_rowU _ _ 3 _ _ _ (Gr.heap_allocN w8 (.cells #[.string cc.t, .string cc.n, .string cc.r, .int .u8 (cc.sc : Int)] 49))).trans (rfl : _ = some (Value.int .u8 (cc.sc : Int))); clear b8 XA8)
                  | (go_at_call 21; refine (HCons.out _ _ _ _ N6.out).mono ?_; rintro _ w7 ⟨rfl, b7⟩; have N7 := hid ((N6.out.below b7).below ((Below.refl _ w7).alloc (Nat.le_refl _) (.cells #[.string a.t, .string a.u, .string a.n, .int .u8 (a.sc : Int)] 52))); have B7 := hid ((Gr.Below.on' B6.out b7).alloc (Gr.Below.on' B6.out b7).size (.cells #[.string a.t, .string a.u, .string a.n, .int .u8 (a.sc : Int)] 52)); have XA := hid (Gr.heap_allocN w7 (.cells #[.string a.t, .string a.u, .string a.n, .int .u8 (a.sc : Int)] 52)); obtain ⟨cc, hbit, hcl⟩ := HCli.out _ _ _ _ N7.out; have HCl2 := hid hcl; clear b7 p0 p1 hcl)
                  | (go_at_call 20; refine (nt_add (what := ⟨#[103, 114, 97, 110, 116]⟩) (who := nm) N5.out HCt.out Hd.out hkw.out (by show 5 ≤ 12; omega) snm.out.2 (HT.out.keep B5.out) B5.out.size).mono ?_; rintro _ w6 ⟨ev, v', c', rfl, n6, ct6, kp6, b6⟩; have N6 := hid (n6.below ((Below.refl _ w6).alloc (Nat.le_refl _) (.cells #[.int .i64 (ev.num : Int), .int .i64 (ev.tim : Int), .string ev.what, .string ev.who] 55))); have CT6 := hid ct6; have B6 := hid ((B5.out.trans b6).alloc (B5.out.trans b6).size (.cells #[.int .i64 (ev.num : Int), .int .i64 (ev.tim : Int), .string ev.what, .string ev.who] 55)); have XO6 := hid ((((Below.refl _ w6).alloc (Nat.le_refl _) (.cells #[.int .i64 (ev.num : Int), .int .i64 (ev.tim : Int), .string ev.what, .string ev.who] 55)).block _ (Gr.heap_lt (kp6 _ _ _ XO5.out (by decide) (by decide) (by decide) (by decide)))).trans (kp6 _ _ _ XO5.out (by decide) (by decide) (by decide) (by decide))); have p0 := (Gr.cell_of_rowU _ _ 0 _ _ _ XO6.out).trans (rfl : _ = some (Value.string ⟨#[116]⟩)); have p1 := (Gr.cell_of_rowU _ _ 1 _ _ _ XO6.out).trans (rfl : _ = some (Value.string us)); clear n6 ct6 kp6 b6)
                  | (go_at_call 19; rw [HY.out]; refine HOp.out.mono ?_; rintro _ w5 ⟨rfl, n5, kp5, b5⟩; have N5 := hid n5; have B5 := hid (B3.out.trans b5); have XO5 := hid (kp5 _ _ _ XO.out (by decide) (by decide) (by decide) (by decide)); clear n5 kp5 b5)
                  | go_in)
                go_roundw
                case rel => exact ⟨k + 1, by have := Hlt.out; omega, by have := hkw.out; omega, by first | rfl | simp, _, v', c', done + 1, by show Value.int .i64 (wrap64 ((done : Int) + 1)) = _; rw [gdw.out], by have := Hd.out; omega, N8.out, CT6.out, B8.out⟩
                case measure => exact Gr.measU _ _ _ Hlt.out rfl
            · have e0 : ((E : Int) == 0) = false := by simp; omega
              clear hE0
              cases hfa : Gr.fA s5 tT us nm with
              | none =>
                have HCons := hid (fun (V : World) (q : Nat) (v : Value) (c : Ch) (h : NT V W.heap.size g gc s5 q v c) => (show Calls Tryd.prog 21 #[.pointer (some ⟨g, 0, none⟩), .agg #[.string ⟨#[116]⟩, .string us], .string nm] V fun e w' => e = .returned (.tuple #[.agg #[.string ⟨#[]⟩, .string ⟨#[]⟩, .string ⟨#[]⟩, .int .u8 0], .int .i64 4]) ∧ Below V.heap.size V w' from by
                  have h9 := nt_cons h tT us nm (szT _) sus.out snm.out.1
                  rw [hfa] at h9
                  exact h9))
                clear hfa
                go_wp2_with (first
                  | (go_at_call 21; refine (HCons.out _ _ _ _ N5.out).mono ?_; rintro _ w7 ⟨rfl, b7⟩; have N7 := hid ((N5.out.below b7).below ((Below.refl _ w7).alloc (Nat.le_refl _) (.cells #[.string ⟨#[]⟩, .string ⟨#[]⟩, .string ⟨#[]⟩, .int .u8 0] 52))); have B7 := hid ((Gr.Below.on' B5.out b7).alloc (Gr.Below.on' B5.out b7).size (.cells #[.string ⟨#[]⟩, .string ⟨#[]⟩, .string ⟨#[]⟩, .int .u8 0] 52)); clear b7 p0 p1)
                  | (go_at_call 19; rw [HY.out]; refine HOp.out.mono ?_; rintro _ w5 ⟨rfl, n5, kp5, b5⟩; have N5 := hid n5; have B5 := hid (B3.out.trans b5); have XO5 := hid (kp5 _ _ _ XO.out (by decide) (by decide) (by decide) (by decide)); have p0 := (Gr.cell_of_rowU _ _ 0 _ _ _ XO5.out).trans (rfl : _ = some (Value.string ⟨#[116]⟩)); have p1 := (Gr.cell_of_rowU _ _ 1 _ _ _ XO5.out).trans (rfl : _ = some (Value.string us)); clear n5 kp5 b5)
                  | go_in)
                go_roundw
                case rel => exact ⟨k + 1, by have := Hlt.out; omega, by have := hkw.out; omega, by first | rfl | simp, _, v, c, done, rfl, by have := Hd.out; omega, N7.out, HCt.out.next, B7.out⟩
                case measure => exact Gr.measU _ _ _ Hlt.out rfl
              | some a =>
                have HCons := hid (fun (V : World) (q : Nat) (v : Value) (c : Ch) (h : NT V W.heap.size g gc s5 q v c) => (show Calls Tryd.prog 21 #[.pointer (some ⟨g, 0, none⟩), .agg #[.string ⟨#[116]⟩, .string us], .string nm] V fun e w' => e = .returned (.tuple #[.agg #[.string a.t, .string a.u, .string a.n, .int .u8 (a.sc : Int)], .int .i64 0]) ∧ Below V.heap.size V w' from by
                  have h9 := nt_cons h tT us nm (szT _) sus.out snm.out.1
                  rw [hfa] at h9
                  exact h9))
                have HCli := hid (fun (V : World) (q : Nat) (v : Value) (c : Ch) (h : NT V W.heap.size g gc s5 q v c) => (show ∃ cc : Gr.Cl, bits BinOp.and IntKind.u8 (a.sc : Int) (cc.sc : Int) = (a.sc : Int) ∧ Calls Tryd.prog 22 #[.pointer (some ⟨g, 0, none⟩), .string ⟨#[116]⟩, .string nm] V fun e w' => e = .returned (.tuple #[.agg #[.string cc.t, .string cc.n, .string cc.r, .int .u8 (cc.sc : Int)], .int .i64 0]) ∧ Below V.heap.size V w' from by
                  obtain ⟨cc, k1, k2, k3, k4⟩ := cli_of h.sok hfa
                  refine ⟨cc, and_self_u8 _ _ (by omega) (by omega) k2, ?_⟩
                  have h9 := nt_cli h tT nm (szT _) snm.out.1
                  rw [k1] at h9
                  exact h9))
                clear hfa
                go_wp2_with (first
                  | (go_at_call 22; refine HCl2.out.mono ?_; rintro _ w8 ⟨rfl, b8⟩; have N8 := hid ((N7.out.below b8).below ((Below.refl _ w8).alloc (Nat.le_refl _) (.cells #[.string cc.t, .string cc.n, .string cc.r, .int .u8 (cc.sc : Int)] 49))); have B8 := hid ((Gr.Below.on' B7.out b8).alloc (Gr.Below.on' B7.out b8).size (.cells #[.string cc.t, .string cc.n, .string cc.r, .int .u8 (cc.sc : Int)] 49)); have XA8 := (((Below.refl _ w8).alloc (Nat.le_refl _) (.cells #[.string cc.t, .string cc.n, .string cc.r, .int .u8 (cc.sc : Int)] 49)).block _ (Gr.heap_lt ((b8.block _ (Gr.heap_lt XA.out)).trans XA.out))).trans ((b8.block _ (Gr.heap_lt XA.out)).trans XA.out); have pa := (Gr.cell_of_rowU _ _ 3 _ _ _ XA8).trans (rfl : _ = some (Value.int .u8 (a.sc : Int))); have pc := (Gr.cell_of_rowU _ _ 3 _ _ _ (Gr.heap_allocN w8 (.cells #[.string cc.t, .string cc.n, .string cc.r, .int .u8 (cc.sc : Int)] 49))).trans (rfl : _ = some (Value.int .u8 (cc.sc : Int))); clear b8 XA8)
                  | (go_at_call 21; refine (HCons.out _ _ _ _ N5.out).mono ?_; rintro _ w7 ⟨rfl, b7⟩; have N7 := hid ((N5.out.below b7).below ((Below.refl _ w7).alloc (Nat.le_refl _) (.cells #[.string a.t, .string a.u, .string a.n, .int .u8 (a.sc : Int)] 52))); have B7 := hid ((Gr.Below.on' B5.out b7).alloc (Gr.Below.on' B5.out b7).size (.cells #[.string a.t, .string a.u, .string a.n, .int .u8 (a.sc : Int)] 52)); have XA := hid (Gr.heap_allocN w7 (.cells #[.string a.t, .string a.u, .string a.n, .int .u8 (a.sc : Int)] 52)); obtain ⟨cc, hbit, hcl⟩ := HCli.out _ _ _ _ N7.out; have HCl2 := hid hcl; clear b7 p0 p1 hcl)
                  | (go_at_call 19; rw [HY.out]; refine HOp.out.mono ?_; rintro _ w5 ⟨rfl, n5, kp5, b5⟩; have N5 := hid n5; have B5 := hid (B3.out.trans b5); have XO5 := hid (kp5 _ _ _ XO.out (by decide) (by decide) (by decide) (by decide)); have p0 := (Gr.cell_of_rowU _ _ 0 _ _ _ XO5.out).trans (rfl : _ = some (Value.string ⟨#[116]⟩)); have p1 := (Gr.cell_of_rowU _ _ 1 _ _ _ XO5.out).trans (rfl : _ = some (Value.string us)); clear n5 kp5 b5)
                  | go_in)
                go_roundw
                case rel => exact ⟨k + 1, by have := Hlt.out; omega, by have := hkw.out; omega, by first | rfl | simp, _, v, c, done, rfl, by have := Hd.out; omega, N8.out, HCt.out.next, B8.out⟩
                case measure => exact Gr.measU _ _ _ Hlt.out rfl
      · have hk0 : k = 60 := by omega
        have g6 : decide ((k : Int) < 60) = false := by simp; omega
        have g6' : ¬ ((k : Int) < 60) := by omega
        have g1' : (k : Int) < (N : Int) := by omega
        clear hk hk6 hk0
        have hcn : Hid (c.cnt = done) := by
          show c.bn + c.ev.length = done
          rw [HCt.out.bn, HCt.out.len, Nat.zero_add]
        have hcb : c.cnt < 1152921504606846976 := by rw [hcn.out]; have := Hd.out; have := Hk6.out; omega
        have HCo := hid (count_any HNt.out.ch HCt.out.ok hcb)
        rw [hcn.out] at HCo
        have HV := hid (fun (V : World) (hV : Below wr.heap.size wr V) => verify_any (HNt.out.ch.below hV) HCt.out.ok hcb (HT.out.keep (Gr.Below.on' Hb.out hV)) (Gr.Below.on' Hb.out hV).size)
        rw [HCt.out.sound.ver] at HV
        have HE := hid (fun (V : World) (hV : Below wr.heap.size wr V) => (show Calls Tryd.prog 24 #[.pointer (some ⟨gc, 0, none⟩)] V fun e w' => ∃ a cp, e = .returned (.slice a done cp) ∧ Below V.heap.size V w' from by
          refine (events_any (HNt.out.ch.below hV) HCt.out.ok).mono ?_
          rintro _ w' ⟨a, cp, rfl, _, q2⟩
          rw [HCt.out.len]
          exact ⟨a, cp, rfl, q2⟩))
        clear hcb
        go_wp2_with (first
          | (go_at_call 24; refine (HE.out _ BV.out).mono ?_; rintro _ w7 ⟨a7, c7, rfl, b7⟩; have BE := hid (Gr.Below.on' BV.out b7); clear b7)
          | (go_at_call 11; refine (HV.out _ BC.out).mono ?_; rintro _ w6 ⟨rfl, b6⟩; have BV := hid (Gr.Below.on' BC.out b6); clear b6)
          | (go_at_call 23; refine HCo.out.mono ?_; rintro _ w5 ⟨rfl, b5⟩; have BC := hid b5; clear b5)
          | go_in)
        go_ret
        exact ⟨rfl, Gr.Below.on' Hb.out BE.out⟩
    · have g1 : decide ((k : Int) < (N : Int)) = false := by simp; omega
      have g1' : ¬ (k : Int) < (N : Int) := by omega
      clear hk
      have hcn : Hid (c.cnt = done) := by
        show c.bn + c.ev.length = done
        rw [HCt.out.bn, HCt.out.len, Nat.zero_add]
      have hcb : c.cnt < 1152921504606846976 := by rw [hcn.out]; have := Hd.out; have := Hk6.out; omega
      have HCo := hid (count_any HNt.out.ch HCt.out.ok hcb)
      rw [hcn.out] at HCo
      have HV := hid (fun (V : World) (hV : Below wr.heap.size wr V) => verify_any (HNt.out.ch.below hV) HCt.out.ok hcb (HT.out.keep (Gr.Below.on' Hb.out hV)) (Gr.Below.on' Hb.out hV).size)
      rw [HCt.out.sound.ver] at HV
      have HE := hid (fun (V : World) (hV : Below wr.heap.size wr V) => (show Calls Tryd.prog 24 #[.pointer (some ⟨gc, 0, none⟩)] V fun e w' => ∃ a cp, e = .returned (.slice a done cp) ∧ Below V.heap.size V w' from by
        refine (events_any (HNt.out.ch.below hV) HCt.out.ok).mono ?_
        rintro _ w' ⟨a, cp, rfl, _, q2⟩
        rw [HCt.out.len]
        exact ⟨a, cp, rfl, q2⟩))
      clear hcb
      go_wp2_with (first
        | (go_at_call 24; refine (HE.out _ BV.out).mono ?_; rintro _ w7 ⟨a7, c7, rfl, b7⟩; have BE := hid (Gr.Below.on' BV.out b7); clear b7)
        | (go_at_call 11; refine (HV.out _ BC.out).mono ?_; rintro _ w6 ⟨rfl, b6⟩; have BV := hid (Gr.Below.on' BC.out b6); clear b6)
        | (go_at_call 23; refine HCo.out.mono ?_; rintro _ w5 ⟨rfl, b5⟩; have BC := hid b5; clear b5)
        | go_in)
      go_ret
      exact ⟨rfl, Gr.Below.on' Hb.out BE.out⟩
end Go.Proofs.YthfmpebgmojcaaaDoor
