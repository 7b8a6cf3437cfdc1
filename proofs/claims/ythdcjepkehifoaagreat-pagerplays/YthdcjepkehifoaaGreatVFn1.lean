/- YthdcjepkehifoaaGreatVMem + YthdcjepkehifoaaGreatVFn1 -/
import Derived.Test.YthdcjepkehifoaaGreatVVMap
import Derived.Test.YthdcjepkehifoaaGreatPShelf
/- A cache of pages in memory. -/
namespace Go.Proofs.YthdcjepkehifoaaGreat
open Go.RowKit Go.Maps
set_option linter.unusedVariables false
set_option maxRecDepth 20000

/-- where a cache lies: its log, the row of its order, its maps; the frames and bytes of clean pages, the bytes of dirty ones -/
structure PM where
  l : Nat
  d : Nat
  g : Nat
  c : Nat
  m : Nat
  n : Nat
  v : Value
  ov : Value
  cm : Nat
  cn : Nat
  dm : Nat
  dn : Nat
  fr : Nat → Nat
  fb : Nat → Nat
  fc : Nat → Nat
  db : Nat → Nat
  dc : Nat → Nat
/-- what it holds: a log (S, P, G, gs, ls; t bounds all that was done), how many pages, the clean ones in their order, which are pinned, the dirty ones rising, hits and misses -/
structure PS where
  S : Nat
  P : Nat
  t : Nat
  G : Nat
  gs : List (List Nat)
  ls : List (Nat × List UInt8)
  mo : Nat
  ord : List Nat
  pin : Nat → Bool
  dl : List (Nat × List UInt8)
  hi : Nat
  mi : Nat
  u : Nat
/-- a page of the log -/
def PS.page (s : PS) (q : Nat) : List UInt8 := pageNow (psOf (fresh s.S s.P) s.ls) s.S s.gs q
/-- a page as it is now -/
def PS.now (s : PS) (q : Nat) : List UInt8 := (s.dl.lookup q).getD (s.page q)
/-- a row of bytes in its block -/
def BBlk (w : World) (b : Nat) (x : List UInt8) : Prop := ∃ cs fz, w.heap[b]? = some (.cells cs 5 fz) ∧ Bytes w (some ⟨b, 0, none⟩) x
theorem Bytes.keepB {w w' : World} {b o : Nat} {x : List UInt8} (h : Bytes w (some ⟨b, o, none⟩) x) (hk : w'.heap[b]? = w.heap[b]?) : Bytes w' (some ⟨b, o, none⟩) x := fun i hi => by
  obtain ⟨b', o', e, hc⟩ := h i hi
  cases e
  exact ⟨b, o, rfl, (World.cell?_of_block (a := ⟨b, o + i, none⟩) hk).trans hc⟩
theorem BBlk.keep {w w' : World} {b : Nat} {x : List UInt8} (h : BBlk w b x) (hk : w'.heap[b]? = w.heap[b]?) : BBlk w' b x := by
  obtain ⟨cs, fz, h1, h2⟩ := h
  exact ⟨cs, fz, hk.trans h1, h2.keepB hk⟩
theorem BBlk.lt {w : World} {b : Nat} {x : List UInt8} (h : BBlk w b x) : b < w.heap.size := by
  obtain ⟨cs, fz, h1, h2⟩ := h
  exact (Array.getElem?_eq_some_iff.1 h1).1
theorem BBlk.of_own {w : World} {B b n c : Nat} {x : List UInt8} (h : w.ownsRow B 5 1 (.slice (some ⟨b, 0, none⟩) n c) n (cellsOf x)) (hn : n = x.length) : BBlk w b x := by
  subst hn
  rcases h.2 with ⟨h0, _⟩ | ⟨b', c', cur, e, _, hb, _⟩
  · cases h0
  · cases e
    refine ⟨cur, (0, 0), hb, fun i hi => ⟨b, 0, rfl, ?_⟩⟩
    have h1 := h.cellAt i (by omega)
    rw [cellsOf_get _ i hi] at h1
    rw [Nat.zero_add]
    exact h1
/-- the values of both maps -/
def clOf (m : PM) (s : PS) (q : Nat) : Option Value := if q ∈ s.ord then some (.pointer (some ⟨m.fr q, 0, none⟩)) else none
def diOf (m : PM) (s : PS) (q : Nat) : Option Value := if (s.dl.lookup q).isSome then some (.slice (some ⟨m.db q, 0, none⟩) 256 (m.dc q)) else none
/-- the cells of a cache -/
def pgObj (m : PM) (s : PS) : Array Value := #[.pointer (some ⟨m.l, 0, none⟩), .int .i64 (s.mo : Int), .int .i64 (s.G : Int), .map (some m.cm), m.ov, .map (some m.dm), .int .i64 (s.hi : Int), .int .i64 (s.mi : Int)]
/-- what is so of every cache -/
structure CaOk (s : PS) : Prop where
  nd : s.ord.Nodup
  olt : ∀ q ∈ s.ord, q < s.P
  ol : s.ord.length ≤ s.mo + 1
  mo1 : 1 ≤ s.mo
  mo2 : s.mo ≤ 64
  dup : s.dl.Pairwise (fun a b => a.1 < b.1)
  dlt : ∀ c ∈ s.dl, c.1 < s.P ∧ c.2.length = 256
  dlen : s.dl.length ≤ 100
  hit : s.hi ≤ s.u
  mit : s.mi ≤ s.u
/-- a cache in memory -/
structure PgMem (w : World) (p : Nat) (m : PM) (s : PS) : Prop where
  obj : w.heap[p]? = some (.cells (pgObj m s) 154 (0, 0))
  log : At1 w 0 s.S s.P s.t m.l m.d m.g m.c m.m m.n m.v s.G s.gs s.ls
  row : w.ownsRow 0 3 1 m.ov s.ord.length (natCells s.ord)
  cmap : VMap w m.cm m.cn (clOf m s)
  dmap : VMap w m.dm m.dn (diOf m s)
  frm : ∀ q ∈ s.ord, w.heap[m.fr q]? = some (.cells #[.slice (some ⟨m.fb q, 0, none⟩) 256 (m.fc q), .bool (s.pin q)] 162 (0, 0))
  fby : ∀ q ∈ s.ord, BBlk w (m.fb q) (s.page q)
  dby : ∀ c ∈ s.dl, BBlk w (m.db c.1) c.2
  inj : ∀ q ∈ s.ord, ∀ q' ∈ s.ord, m.fr q = m.fr q' → q = q'
  cd : m.cm ≠ m.dm
  cl : m.cm ≠ m.m
  dm' : m.dm ≠ m.m
  cnt : m.cn ≤ s.u
  dnt : m.dn ≤ s.t
  ok : CaOk s
/-- the blocks that are written; those that are only read -/
def ownB (p : Nat) (m : PM) (s : PS) (k : Nat) : Prop := k = p ∨ logBlock m.l m.d m.g m.m m.v k ∨ m.ov.ownBlock = some k ∨ k = m.cm ∨ k = m.dm ∨ ∃ q ∈ s.ord, k = m.fr q
def bytB (m : PM) (s : PS) (k : Nat) : Prop := (∃ q ∈ s.ord, k = m.fb q) ∨ ∃ c ∈ s.dl, k = m.db c.1
def allB (p : Nat) (m : PM) (s : PS) (k : Nat) : Prop := ownB p m s k ∨ bytB m s k
theorem ownsRow_keep {w w' : World} {B e z n : Nat} {v : Value} {xs : List Value} (h : w.ownsRow B e z v n xs) (hk : ∀ k, v.ownBlock = some k → w'.heap[k]? = w.heap[k]?) : w'.ownsRow B e z v n xs := by
  refine ⟨h.1, ?_⟩
  rcases h.2 with h0 | ⟨g, cap, cur, rfl, hb, hg, r⟩
  · exact .inl h0
  · exact .inr ⟨g, cap, cur, rfl, hb, (hk g rfl).trans hg, r⟩
section
variable {w w' : World} {p : Nat} {m : PM} {s : PS}
theorem PgMem.keep (h : PgMem w p m s) (hk : ∀ k, allB p m s k → w'.heap[k]? = w.heap[k]?) : PgMem w' p m s := by
  refine ⟨(hk p (.inl (.inl rfl))).trans h.obj, ⟨h.log.mem.keep fun k h1 => hk k (.inl (.inr (.inl h1))), h.log.inv, h.log.gr, h.log.lsl, h.log.nl⟩, ownsRow_keep h.row fun k h1 => hk k (.inl (.inr (.inr (.inl h1)))), h.cmap.keep (hk _ (.inl (.inr (.inr (.inr (.inl rfl)))))), h.dmap.keep (hk _ (.inl (.inr (.inr (.inr (.inr (.inl rfl))))))), fun q hq => (hk _ (.inl (.inr (.inr (.inr (.inr (.inr ⟨q, hq, rfl⟩))))))).trans (h.frm q hq), fun q hq => (h.fby q hq).keep (hk _ (.inr (.inl ⟨q, hq, rfl⟩))), fun c hc => (h.dby c hc).keep (hk _ (.inr (.inr ⟨c, hc, rfl⟩))), h.inj, h.cd, h.cl, h.dm', h.cnt, h.dnt, h.ok⟩
theorem PgMem.lts (h : PgMem w p m s) : ∀ k, allB p m s k → k < w.heap.size := by
  rintro k ((rfl | h1 | h1 | rfl | rfl | ⟨q, hq, rfl⟩) | (⟨q, hq, rfl⟩ | ⟨c, hc, rfl⟩))
  · exact (Array.getElem?_eq_some_iff.1 h.obj).1
  · exact (h.log.mem.lts k h1).2
  · exact (h.row.lt k h1).2
  · exact h.cmap.lt
  · exact h.dmap.lt
  · exact (Array.getElem?_eq_some_iff.1 (h.frm q hq)).1
  · exact (h.fby q hq).lt
  · exact (h.dby c hc).lt
theorem PgMem.below (h : PgMem w p m s) (hb : Below w.heap.size w w') : PgMem w' p m s := h.keep fun k hk => hb.block k (h.lts k hk)
theorem PgMem.c0 (h : PgMem w p m s) : w.cell? ⟨p, 0, none⟩ = some (.pointer (some ⟨m.l, 0, none⟩)) := cell_of_row _ _ 0 _ _ _ h.obj
theorem PgMem.c1 (h : PgMem w p m s) : w.cell? ⟨p, 1, none⟩ = some (.int .i64 (s.mo : Int)) := cell_of_row _ _ 1 _ _ _ h.obj
theorem PgMem.c2 (h : PgMem w p m s) : w.cell? ⟨p, 2, none⟩ = some (.int .i64 (s.G : Int)) := cell_of_row _ _ 2 _ _ _ h.obj
theorem PgMem.c3 (h : PgMem w p m s) : w.cell? ⟨p, 3, none⟩ = some (.map (some m.cm)) := cell_of_row _ _ 3 _ _ _ h.obj
theorem PgMem.c4 (h : PgMem w p m s) : w.cell? ⟨p, 4, none⟩ = some m.ov := cell_of_row _ _ 4 _ _ _ h.obj
theorem PgMem.c5 (h : PgMem w p m s) : w.cell? ⟨p, 5, none⟩ = some (.map (some m.dm)) := cell_of_row _ _ 5 _ _ _ h.obj
theorem PgMem.c6 (h : PgMem w p m s) : w.cell? ⟨p, 6, none⟩ = some (.int .i64 (s.hi : Int)) := cell_of_row _ _ 6 _ _ _ h.obj
theorem PgMem.c7 (h : PgMem w p m s) : w.cell? ⟨p, 7, none⟩ = some (.int .i64 (s.mi : Int)) := cell_of_row _ _ 7 _ _ _ h.obj
theorem PgMem.z (h : PgMem w p m s) (j : Nat) : w.frozen? ⟨p, j, none⟩ = false := frozen_of_row _ _ j _ _ h.obj
end
/-- two blocks of unlike kinds -/
theorem ty_ne {w : World} {a b : Nat} {c c' : Array Value} {t t' : TypeId} {f f' : Nat × Nat} (h : w.heap[a]? = some (.cells c t f)) (h' : w.heap[b]? = some (.cells c' t' f')) (ht : t ≠ t') : a ≠ b := fun e => by
  rw [e, h'] at h
  injection h with h
  injection h with _ h
  exact ht h.symm
theorem map_ne {w : World} {a b : Nat} {c : Array Value} {t : TypeId} {f : Nat × Nat} {es : Array MapEntry} {cl : Nat} (h : w.heap[a]? = some (.cells c t f)) (h' : w.heap[b]? = some (.map es cl)) : a ≠ b := fun e => by
  rw [e, h'] at h
  cases h
/-- the kinds of a log's blocks -/
def logTy (t : TypeId) : Bool := t == 101 || t == 118 || t == 120 || t == 122
theorem LogMem.kind {w : World} {B l d g cap mb n : Nat} {v : Value} {S G U : Nat} {pl : Nat → Option Nat} {ps : List (List UInt8)} {ch : List (Nat × List UInt8)} (h : LogMem w B l d g cap mb n v S G U pl ps ch) (k : Nat) (hk : logBlock l d g mb v k) : k = mb ∨ ∃ cs t fz, w.heap[k]? = some (.cells cs t fz) ∧ logTy t = true := by
  rcases hk with rfl | rfl | rfl | rfl | e
  · exact .inr ⟨_, _, _, h.obj, by decide⟩
  · exact .inr ⟨_, _, _, h.disk.obj, by decide⟩
  · rcases h.disk.pages.2 with ⟨e, _⟩ | ⟨g', cap', cur, e, _, hh, _⟩
    · cases e
    · cases e; exact .inr ⟨_, _, _, hh, by decide⟩
  · exact .inl rfl
  · rcases h.disk.chs.2 with ⟨e', _⟩ | ⟨g', cap', cur, e', _, hh, _⟩
    · rw [e'] at e; cases e
    · rw [e'] at e; cases e; exact .inr ⟨_, _, _, hh, by decide⟩
/-- a block of another kind is none of a log's -/
theorem LogMem.not {w : World} {B l d g cap mb n : Nat} {v : Value} {S G U : Nat} {pl : Nat → Option Nat} {ps : List (List UInt8)} {ch : List (Nat × List UInt8)} (h : LogMem w B l d g cap mb n v S G U pl ps ch) {k : Nat} {cs : Array Value} {t : TypeId} {fz : Nat × Nat} (hk : w.heap[k]? = some (.cells cs t fz)) (ht : logTy t = false) : ¬ logBlock l d g mb v k := fun hl => by
  rcases h.kind k hl with rfl | ⟨cs', t', fz', h', ht'⟩
  · obtain ⟨es, cl, hm⟩ := h.map.isMap
    rw [hm] at hk
    cases hk
  · rw [h'] at hk
    injection hk with hk
    injection hk with _ hk
    rw [hk, ht] at ht'
    cases ht'
theorem LogMem.notMap {w : World} {B l d g cap mb n : Nat} {v : Value} {S G U : Nat} {pl : Nat → Option Nat} {ps : List (List UInt8)} {ch : List (Nat × List UInt8)} (h : LogMem w B l d g cap mb n v S G U pl ps ch) {k : Nat} {es : Array MapEntry} {cl : Nat} (hk : w.heap[k]? = some (.map es cl)) (hne : k ≠ mb) : ¬ logBlock l d g mb v k := fun hl => by
  rcases h.kind k hl with h1 | ⟨cs', t', fz', h', ht'⟩
  · exact hne h1
  · rw [h'] at hk
    cases hk
theorem row_ty {w : World} {B e z n : Nat} {v : Value} {xs : List Value} (h : w.ownsRow B e z v n xs) {k : Nat} (hk : v.ownBlock = some k) : ∃ cs, w.heap[k]? = some (.cells cs e (0, 0)) := by
  rcases h.2 with ⟨rfl, _⟩ | ⟨g, cap, cur, rfl, _, hg, _⟩
  · cases hk
  · cases hk; exact ⟨_, hg⟩
section
variable {w w' : World} {p : Nat} {m : PM} {s : PS}
theorem PgMem.obj_not (h : PgMem w p m s) : ¬ logBlock m.l m.d m.g m.m m.v p := h.log.mem.not h.obj (by decide)
theorem PgMem.cm_not (h : PgMem w p m s) : ¬ logBlock m.l m.d m.g m.m m.v m.cm := by obtain ⟨es, cl, hm⟩ := h.cmap.isMap; exact h.log.mem.notMap hm h.cl
theorem PgMem.dm_not (h : PgMem w p m s) : ¬ logBlock m.l m.d m.g m.m m.v m.dm := by obtain ⟨es, cl, hm⟩ := h.dmap.isMap; exact h.log.mem.notMap hm h.dm'
theorem PgMem.ov_not (h : PgMem w p m s) {k : Nat} (hk : m.ov.ownBlock = some k) : ¬ logBlock m.l m.d m.g m.m m.v k := by obtain ⟨cs, hm⟩ := row_ty h.row hk; exact h.log.mem.not hm (by decide)
theorem PgMem.p_cm (h : PgMem w p m s) : p ≠ m.cm := by obtain ⟨es, cl, hm⟩ := h.cmap.isMap; exact map_ne h.obj hm
theorem PgMem.p_dm (h : PgMem w p m s) : p ≠ m.dm := by obtain ⟨es, cl, hm⟩ := h.dmap.isMap; exact map_ne h.obj hm
theorem PgMem.ov_p (h : PgMem w p m s) : m.ov.ownBlock ≠ some p := fun e => by obtain ⟨cs, hm⟩ := row_ty h.row e; exact ty_ne h.obj hm (by decide) rfl
theorem PgMem.ov_cm (h : PgMem w p m s) : m.ov.ownBlock ≠ some m.cm := fun e => by obtain ⟨cs, hm⟩ := row_ty h.row e; obtain ⟨es, cl, hc⟩ := h.cmap.isMap; exact map_ne hm hc rfl
theorem PgMem.ov_dm (h : PgMem w p m s) : m.ov.ownBlock ≠ some m.dm := fun e => by obtain ⟨cs, hm⟩ := row_ty h.row e; obtain ⟨es, cl, hc⟩ := h.dmap.isMap; exact map_ne hm hc rfl
/-- a row of bytes lies apart from all that is written -/
theorem PgMem.byt (h : PgMem w p m s) {b : Nat} {x : List UInt8} (hb : BBlk w b x) : ¬ ownB p m s b := by
  obtain ⟨cs, fz, hb, _⟩ := hb
  rintro (rfl | h1 | h1 | rfl | rfl | ⟨q, hq, rfl⟩)
  · exact ty_ne h.obj hb (by decide) rfl
  · exact h.log.mem.not hb (by decide) h1
  · obtain ⟨cs', hm⟩ := row_ty h.row h1
    exact ty_ne hm hb (by decide) rfl
  · obtain ⟨es, cl, hc⟩ := h.cmap.isMap
    exact map_ne hb hc rfl
  · obtain ⟨es, cl, hc⟩ := h.dmap.isMap
    exact map_ne hb hc rfl
  · exact ty_ne (h.frm q hq) hb (by decide) rfl
/-- .. and so does a frame from all but the frames -/
theorem PgMem.fr_ne (h : PgMem w p m s) {q : Nat} (hq : q ∈ s.ord) : m.fr q ≠ p ∧ ¬ logBlock m.l m.d m.g m.m m.v (m.fr q) ∧ m.ov.ownBlock ≠ some (m.fr q) ∧ m.fr q ≠ m.cm ∧ m.fr q ≠ m.dm := by
  refine ⟨ty_ne (h.frm q hq) h.obj (by decide), h.log.mem.not (h.frm q hq) (by decide), fun e => ?_, ?_, ?_⟩
  · obtain ⟨cs', hm⟩ := row_ty h.row e
    exact ty_ne (h.frm q hq) hm (by decide) rfl
  · obtain ⟨es, cl, hc⟩ := h.cmap.isMap
    exact map_ne (h.frm q hq) hc
  · obtain ⟨es, cl, hc⟩ := h.dmap.isMap
    exact map_ne (h.frm q hq) hc
theorem At1.keep {B S P k l d g c mm n G : Nat} {v : Value} {gs : List (List Nat)} {ls : List (Nat × List UInt8)} (h : At1 w B S P k l d g c mm n v G gs ls) (hk : ∀ j, logBlock l d g mm v j → w'.heap[j]? = w.heap[j]?) {k' : Nat} (hkk : k ≤ k') : At1 w' B S P k' l d g c mm n v G gs ls := by
  have h1 := h.gr
  have h2 := h.lsl
  have h3 := h.nl
  exact ⟨h.mem.keep hk, h.inv, by omega, by omega, by omega⟩
/-- what is written when the clean pages change -/
def clB (p : Nat) (m : PM) (k : Nat) : Prop := k = p ∨ k = m.cm ∨ m.ov.ownBlock = some k
/-- the clean pages have changed -/
theorem PgMem.clean (h : PgMem w p m s) (ho : Out (clB p m) w w') (ov' : Value) (cn' : Nat) (fr' fb' fc' : Nat → Nat) (ord' : List Nat) (pin' : Nat → Bool) (hi' mi' u' : Nat) (hu : s.u ≤ u')
    (obj : w'.heap[p]? = some (.cells (pgObj { m with ov := ov' } { s with hi := hi', mi := mi' }) 154 (0, 0))) (row : w'.ownsRow 0 3 1 ov' ord'.length (natCells ord'))
    (cmap : VMap w' m.cm cn' (fun q => if q ∈ ord' then some (.pointer (some ⟨fr' q, 0, none⟩)) else none))
    (frm : ∀ q ∈ ord', w'.heap[fr' q]? = some (.cells #[.slice (some ⟨fb' q, 0, none⟩) 256 (fc' q), .bool (pin' q)] 162 (0, 0)))
    (fby : ∀ q ∈ ord', BBlk w' (fb' q) (s.page q)) (inj : ∀ q ∈ ord', ∀ q' ∈ ord', fr' q = fr' q' → q = q') (cnt : cn' ≤ u')
    (ok : CaOk { s with ord := ord', pin := pin', hi := hi', mi := mi', u := u' }) :
    PgMem w' p { m with ov := ov', cn := cn', fr := fr', fb := fb', fc := fc' } { s with ord := ord', pin := pin', hi := hi', mi := mi', u := u' } := by
  have kl : ∀ j, logBlock m.l m.d m.g m.m m.v j → w'.heap[j]? = w.heap[j]? := fun j hj => ho.block j (h.log.mem.lts j hj).2 (by
    rintro (rfl | rfl | e)
    · exact h.obj_not hj
    · exact h.cm_not hj
    · exact h.ov_not e hj)
  have kd : w'.heap[m.dm]? = w.heap[m.dm]? := ho.block _ h.dmap.lt (by
    rintro (e | e | e)
    · exact h.p_dm e.symm
    · exact h.cd e.symm
    · exact h.ov_dm e)
  have kb : ∀ c ∈ s.dl, w'.heap[m.db c.1]? = w.heap[m.db c.1]? := fun c hc => ho.block _ (h.dby c hc).lt (fun hx => h.byt (h.dby c hc) (by
    rcases hx with e | e | e
    · exact .inl e
    · exact .inr (.inr (.inr (.inl e)))
    · exact .inr (.inr (.inl e))))
  exact ⟨obj, h.log.keep kl (Nat.le_refl _), row, cmap, h.dmap.keep kd, frm, fby, fun c hc => (h.dby c hc).keep (kb c hc), inj, h.cd, h.cl, h.dm', cnt, h.dnt, ok⟩
/-- the dirty pages have changed -/
theorem PgMem.dirt (h : PgMem w p m s) (ho : Out (fun k => k = m.dm) w w') (dn' : Nat) (db' dc' : Nat → Nat) (dl' : List (Nat × List UInt8)) (t' : Nat) (ht : s.t ≤ t')
    (dmap : VMap w' m.dm dn' (fun q => if (dl'.lookup q).isSome then some (.slice (some ⟨db' q, 0, none⟩) 256 (dc' q)) else none))
    (dby : ∀ c ∈ dl', BBlk w' (db' c.1) c.2) (dnt : dn' ≤ t') (ok : CaOk { s with dl := dl', t := t' }) :
    PgMem w' p { m with dn := dn', db := db', dc := dc' } { s with dl := dl', t := t' } := by
  have k : ∀ j, j < w.heap.size → j ≠ m.dm → w'.heap[j]? = w.heap[j]? := fun j hj hn => ho.block j hj hn
  refine ⟨(k p (Array.getElem?_eq_some_iff.1 h.obj).1 h.p_dm).trans h.obj, h.log.keep (fun j hj => k j (h.log.mem.lts j hj).2 (fun e => h.dm_not (e ▸ hj))) ht, ownsRow_keep h.row (fun j hj => k j (h.row.lt j hj).2 (fun e => h.ov_dm (e ▸ hj))), h.cmap.keep (k _ h.cmap.lt h.cd), dmap, fun q hq => (k _ (Array.getElem?_eq_some_iff.1 (h.frm q hq)).1 (h.fr_ne hq).2.2.2.2).trans (h.frm q hq), fun q hq => (h.fby q hq).keep (k _ (h.fby q hq).lt (fun e => h.byt (h.fby q hq) (.inr (.inr (.inr (.inr (.inl e))))))), dby, h.inj, h.cd, h.cl, h.dm', h.cnt, dnt, ok⟩
end
end Go.Proofs.YthdcjepkehifoaaGreat

/- The small functions of package pager, each by a contract. -/
namespace Go.Proofs.YthdcjepkehifoaaGreat
open Go.RowKit Go.Maps
set_option linter.unusedVariables false
set_option maxRecDepth 20000
theorem _root_.Go.RowKit.Below.on' {a b c : World} (h : Below a.heap.size a b) (k : Below b.heap.size b c) : Below a.heap.size a c := h.trans (k.mono h.size)
theorem zeroFr (w : World) : (zeroValue 163).run Tryz.prog w = .ok (.pointer none) w := by kernel_rfl
theorem zeroBy (w : World) : (zeroValue 36).run Tryz.prog w = .ok (.slice none 0 0) w := by kernel_rfl
/-- whether a number is that of a dirty page -/
def isDi (s : PS) (x : Int) : Bool := decide (0 ≤ x) && (s.dl.lookup x.toNat).isSome
section
variable {w : World} {p : Nat} {m : PM} {s : PS}
theorem PgMem.di_in (h : PgMem w p m s) {q : Nat} (hq : (s.dl.lookup q).isSome = true) (hw : q ≤ 9223372036854775807) :
    (Instr.lookup 152 (.map (some m.dm)) (.int .i64 (q : Int)) true).run Tryz.prog w = .ok (.tuple #[.slice (some ⟨m.db q, 0, none⟩) 256 (m.dc q), .bool true]) w ∧ (Instr.lookup 152 (.map (some m.dm)) (.int .i64 (q : Int)) false).run Tryz.prog w = .ok (.slice (some ⟨m.db q, 0, none⟩) 256 (m.dc q)) w :=
  h.dmap.look_in Tryz.underlying152 (zeroBy w) (by unfold diOf; rw [if_pos hq]) hw
theorem PgMem.di_out (h : PgMem w p m s) {x : Int} (hx : isDi s x = false) (hw : (Lit.int .i64 x).wf = true) :
    (Instr.lookup 152 (.map (some m.dm)) (.int .i64 x) true).run Tryz.prog w = .ok (.tuple #[.slice none 0 0, .bool false]) w :=
  (h.dmap.look_out Tryz.underlying152 (zeroBy w) (by
    unfold isDi at hx
    by_cases h0 : 0 ≤ x
    · rw [decide_eq_true h0, Bool.true_and] at hx
      right
      unfold diOf
      rw [if_neg (by rw [hx]; exact Bool.false_ne_true)]
    · left; omega) hw).1
theorem PgMem.cl_in (h : PgMem w p m s) {q : Nat} (hq : q ∈ s.ord) (hw : q ≤ 9223372036854775807) :
    (Instr.lookup 151 (.map (some m.cm)) (.int .i64 (q : Int)) true).run Tryz.prog w = .ok (.tuple #[.pointer (some ⟨m.fr q, 0, none⟩), .bool true]) w ∧ (Instr.lookup 151 (.map (some m.cm)) (.int .i64 (q : Int)) false).run Tryz.prog w = .ok (.pointer (some ⟨m.fr q, 0, none⟩)) w :=
  h.cmap.look_in Tryz.underlying151 (zeroFr w) (by unfold clOf; rw [if_pos hq]) hw
theorem PgMem.cl_out (h : PgMem w p m s) {q : Nat} (hq : q ∉ s.ord) (hw : q ≤ 9223372036854775807) :
    (Instr.lookup 151 (.map (some m.cm)) (.int .i64 (q : Int)) true).run Tryz.prog w = .ok (.tuple #[.pointer none, .bool false]) w :=
  (h.cmap.look_out Tryz.underlying151 (zeroFr w) (by right; unfold clOf; rw [Int.toNat_natCast, if_neg hq]) (WalkArith.wf_i64 (by omega))).1

set_option maxHeartbeats 400000 in
theorem isDirty_any (h : PgMem w p m s) (x : Int) (hx : -9223372036854775808 ≤ x ∧ x ≤ 9223372036854775807) :
    Calls Tryz.prog 120 #[.pointer (some ⟨p, 0, none⟩), .int .i64 x] w fun e w' => e = .returned (.bool (isDi s x)) ∧ w' = w := by
  have c5 := h.c5
  cases hd : isDi s x with
  | true =>
    have hd' := hd
    unfold isDi at hd'
    rw [Bool.and_eq_true, decide_eq_true_eq] at hd'
    obtain ⟨q, rfl⟩ : ∃ q : Nat, x = (q : Int) := ⟨x.toNat, by omega⟩
    have hl := (h.di_in (q := q) hd'.2 (by omega)).1
    clear h hd hd'
    go_enter Tryz.func120, Tryz.ntmps120
    go_wp2
    go_ret
    exact ⟨rfl, rfl⟩
  | false =>
    have hl := h.di_out hd (WalkArith.wf_i64 hx)
    clear h hd
    go_enter Tryz.func120, Tryz.ntmps120
    go_wp2
    go_ret
    exact ⟨rfl, rfl⟩

set_option maxHeartbeats 400000 in
theorem isPinned_any (h : PgMem w p m s) (q : Nat) (hx : q ≤ 9223372036854775807) :
    Calls Tryz.prog 153 #[.pointer (some ⟨p, 0, none⟩), .int .i64 (q : Int)] w fun e w' => e = .returned (.bool (decide (q ∈ s.ord) && s.pin q)) ∧ w' = w := by
  have c3 := h.c3
  by_cases hq : q ∈ s.ord
  · have hl := (h.cl_in hq hx).1
    have hf := h.frm q hq
    have c1 : w.cell? ⟨m.fr q, 1, none⟩ = some (.bool (s.pin q)) := cell_of_row _ _ 1 _ _ _ hf
    rw [decide_eq_true hq, Bool.true_and]
    generalize s.pin q = b at *
    clear h hf hq
    go_enter Tryz.func153, Tryz.ntmps153
    go_wp2
    go_ret
    exact ⟨rfl, rfl⟩
  · have hl := h.cl_out hq hx
    rw [decide_eq_false hq, Bool.false_and]
    clear h hq
    go_enter Tryz.func153, Tryz.ntmps153
    go_wp2
    go_ret
    exact ⟨rfl, rfl⟩

/-- the error of asking for pages -/
def reachE (P : Nat) (q : List Int) : Int := if q.all (fun x => decide (0 ≤ x) && decide (x < (P : Int))) then 0 else 2
set_option maxHeartbeats 1000000 in
theorem pgReach_any (h : PgMem w p m s) (a : Option Addr) (q : List Int) (c : Nat) (hq : IntsAt w a q) (hl : q.length ≤ 9223372036854775807) :
    Calls Tryz.prog 118 #[.pointer (some ⟨p, 0, none⟩), .slice a q.length c] w fun e w' => e = .returned (.int .i64 (reachE s.P q)) ∧ Below w.heap.size w w' := by
  have H := hid h
  have Hq := hid hq
  clear h hq
  go_enter Tryz.func118, Tryz.ntmps118
  go_wp2_with fail
  go_loopw [11] (fun i wr => ∃ k : Nat, k ≤ q.length ∧ i = .int .i64 (k : Int) ∧ (q.take k).all (fun x => decide (0 ≤ x) && decide (x < (s.P : Int))) = true ∧ Below w.heap.size w wr) (fun i _ => q.length - (intOf i).toNat)
  case atStart => exact ⟨0, Nat.zero_le _, rfl, by simp, Below.refl _ _⟩
  case round =>
    obtain ⟨k, hk, rfl, hall, hbel⟩ := hrel
    have Hall := hid hall
    have Hbel := hid hbel
    clear hall hbel
    by_cases hlt : k < q.length
    · have g1 : (k : Int) < (q.length : Int) := by omega
      obtain ⟨b, o, rfl, hc⟩ := (Hq.out.below Hbel.out) k hlt
      have Hst : Hid (q.take (k + 1) = q.take k ++ [q[k]]) := List.take_succ_eq_append_getElem hlt
      have Hmem : Hid (q[k] ∈ q) := List.getElem_mem hlt
      generalize q[k] = x at *
      have HM := H.out.below Hbel.out
      have hP := hid (logPages_any HM.log.mem s.P (by have := HM.log.inv.len; exact this) (by have := HM.log.inv.most; exact this))
      have c0 := HM.c0
      clear HM
      by_cases hx0 : x < 0
      · have n0 : decide (x < 0) = true := decide_eq_true hx0
        have hbad : Hid (reachE s.P q = 2) := by
          show _ = _
          unfold reachE
          rw [if_neg]
          intro hh
          have := List.all_eq_true.1 hh x Hmem.out
          simp at this
          omega
        go_wp2_with fail
        go_ret
        exact ⟨by rw [hbad.out]; rfl, Hbel.out⟩
      · have n0 : decide (x < 0) = false := decide_eq_false hx0
        have n1 : ¬ x < 0 := hx0
        by_cases hxP : x < (s.P : Int)
        · have n2 : decide ((s.P : Int) ≤ x) = false := decide_eq_false (by omega)
          have n3 : ¬ (s.P : Int) ≤ x := by omega
          go_wp2_with (go_at_call 17; refine hP.out.mono ?_; rintro e w1 ⟨rfl, hb1⟩; have Hb1 := hid hb1; clear hb1)
          go_roundw
          case rel =>
            refine ⟨k + 1, by omega, by go_num, ?_, Below.on' Hbel.out Hb1.out⟩
            rw [Hst.out, List.all_append, Hall.out]
            simp
            omega
          case measure => simp [intOf]; omega
        · have n2 : decide ((s.P : Int) ≤ x) = true := decide_eq_true (by omega)
          have n3 : (s.P : Int) ≤ x := by omega
          have hbad : Hid (reachE s.P q = 2) := by
            show _ = _
            unfold reachE
            rw [if_neg]
            intro hh
            have := List.all_eq_true.1 hh x Hmem.out
            simp at this
            omega
          go_wp2_with (go_at_call 17; refine hP.out.mono ?_; rintro e w1 ⟨rfl, hb1⟩; have Hb1 := hid hb1; clear hb1)
          go_ret
          exact ⟨by rw [hbad.out]; rfl, Below.on' Hbel.out Hb1.out⟩
    · have g1 : ¬ (k : Int) < (q.length : Int) := by omega
      have hfin : Hid (reachE s.P q = 0) := by
        show _ = _
        unfold reachE
        rw [if_pos]
        have := Hall.out
        rw [List.take_of_length_le (by omega)] at this
        exact this
      go_wp2_with fail
      go_ret
      exact ⟨by rw [hfin.out]; rfl, Hbel.out⟩

set_option maxHeartbeats 400000 in
theorem fetch_any (h : PgMem w p m s) (q : Nat) (hq : q < s.P) :
    Calls Tryz.prog 156 #[.pointer (some ⟨p, 0, none⟩), .int .i64 (q : Int)] w fun e w' => ∃ b c, e = .returned (.slice (some ⟨b, 0, none⟩) 256 c) ∧ w.heap.size ≤ b ∧ BBlk w' b (s.page q) ∧ 256 ≤ c ∧ Below w.heap.size w w' := by
  have hlen := h.log.inv.len
  have hmost := h.log.inv.most
  have hpl := placeOf_lt h.log.inv q hq
  have hx : (psOf (fresh s.S s.P) s.ls)[(plOf s.gs q).getD (s.S + 1 + q)]? = some (s.page q) := by
    show (psOf (fresh s.S s.P) s.ls)[placeOf s.S s.gs q]? = some (pageNow (psOf (fresh s.S s.P) s.ls) s.S s.gs q)
    unfold pageNow
    rw [List.getElem?_eq_getElem hpl]
    simp [List.getD, List.getElem?_eq_getElem hpl]
  have HC := hid (logRead_ok h.log.mem s.P hlen hmost q hq (s.page q) hx)
  have hpg := pageNow_length h.log.inv q hq
  have c0 := h.c0
  have Hpg : Hid ((s.page q).length = 256) := hpg
  clear h hx hlen hmost hpl hpg
  go_enter Tryz.func156, Tryz.ntmps156
  go_wp2_with (go_at_call 28; refine HC.out.mono ?_; rintro e w1 ⟨b, c, rfl, ho, hc, hb⟩; have Ho := hid ho; have Hb := hid hb; clear ho hb)
  go_ret
  exact ⟨b, c, rfl, (Ho.out.lt b rfl).1, BBlk.of_own Ho.out Hpg.out.symm, hc, Hb.out⟩

set_option maxHeartbeats 400000 in
theorem freshen_any (h : PgMem w p m s) (hG : s.t ≤ 1000000) :
    Calls Tryz.prog 122 #[.pointer (some ⟨p, 0, none⟩)] w fun e w' => e = .returned (.tuple #[]) ∧ Below w.heap.size w w' := by
  have hg := h.log.gr
  have HC := hid (fun k => groups_any (h.log.mem.below (w' := w.drewN k) ⟨rfl, rfl, rfl, Nat.le_refl _, fun _ _ => rfl⟩) (by omega))
  have c0 := h.c0
  have c2 := h.c2
  clear h
  go_enter Tryz.func122, Tryz.ntmps122
  go_wp2_with fail
  go_region_with (go_at_call 23; refine (HC.out 1).mono ?_; rintro e w1 ⟨rfl, rfl⟩)
  all_goals go_wp2
  all_goals refine bodyPost_ret (results_none rfl _ _ _) rfl ?_
  all_goals exact ⟨rfl, ⟨rfl, rfl, rfl, Nat.le_refl _, fun _ _ => rfl⟩⟩
end
end Go.Proofs.YthdcjepkehifoaaGreat
