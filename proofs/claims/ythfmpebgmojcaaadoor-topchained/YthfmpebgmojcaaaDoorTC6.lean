/- YthfmpebgmojcaaaDoorALift + YthfmpebgmojcaaaDoorTC4 + YthfmpebgmojcaaaDoorTC6 -/
import Derived.Test.YthfmpebgmojcaaaDoorTkG
import Derived.Test.YthfmpebgmojcaaaDoorCards
import Derived.Test.YthfmpebgmojcaaaDoorTie
import Derived.Test.YthfmpebgmojcaaaDoorAToNum
import Derived.ProofKit
import Derived.OpenShut
import Derived.ShutString
import Derived.ChangeOld
import Derived.Deep.DeepHandedRow
import Derived.Lib.LaidTab
import Derived.Stop.LaidErr
import Derived.SizedLaws
import Derived.SliceStrings
import Derived.Test.YthfmpebgmojcaaaDoorTC3
import Derived.Test.YthfmpebgmojcaaaDoorARefNum
import Derived.Test.YthfmpebgmojcaaaDoorYG
/- What the rows' list of variables gives, and what every law's lift shares (four tables). -/
namespace Go.Proofs.YthfmpebgmojcaaaDoor
open Go.ChangeShapes Go.WideShapes Go.ChangeAt Go.RowKit
set_option maxRecDepth 20000
theorem own : ownKnob Tryd.prog.godebug = none := by kernel_rfl
theorem laidOut : laidOutB Tryd.prog = true := by kernel_rfl
theorem gTab : Tryd.prog.globalNamed "holdfast/hash.roundWords" = some 0 := by kernel_rfl
theorem gTabType : (Tryd.prog.globals[0]?).map (·.type) = some 185 := by kernel_rfl
theorem cellsTab : Tryd.prog.cellsOf 185 = 64 := by kernel_rfl
theorem cellsWord : Tryd.prog.cellsOf 129 = 1 := by kernel_rfl
theorem cellsByte : Tryd.prog.cellsOf 5 = 1 := by kernel_rfl
theorem gTab8 : Tryd.prog.globalNamed "math/bits.deBruijn64tab" = some 4 := by kernel_rfl
theorem gTabType8 : (Tryd.prog.globals[4]?).map (·.type) = some 132 := by kernel_rfl
theorem cellsTab8 : Tryd.prog.cellsOf 132 = 64 := by kernel_rfl
abbrev laidList : List (String × DataW Unit) := Rows.auditLoadsRow.laid
def KZ : List Int := [1116352408, 1899447441, 3049323471, 3921009573, 961987163, 1508970993, 2453635748, 2870763221, 3624381080, 310598401, 607225278, 1426881987, 1925078388, 2162078206, 2614888103, 3248222580, 3835390401, 4022224774, 264347078, 604807628, 770255983, 1249150122, 1555081692, 1996064986, 2554220882, 2821834349, 2952996808, 3210313671, 3336571891, 3584528711, 113926993, 338241895, 666307205, 773529912, 1294757372, 1396182291, 1695183700, 1986661051, 2177026350, 2456956037, 2730485921, 2820302411, 3259730800, 3345764771, 3516065817, 3600352804, 4094571909, 275423344, 430227734, 506948616, 659060556, 883997877, 958139571, 1322822218, 1537002063, 1747873779, 1955562222, 2024104815, 2227730452, 2361852424, 2428436474, 2756734187, 3204031479, 3329325298]
theorem kz_at : ∀ i : Fin 64, KZ[i.val]'i.isLt = ((KL[i.val]'(by rw [KL_length]; exact i.isLt)).toNat : Int) := by decide +kernel
theorem kat_of {W : World} (h : laidMetH Tryd.prog laidList W) : KAt W := by
  have h0 : laidMet Tryd.prog laidList W := h
  have h1 := laidMet.tail (laidMet.tail (laidMet.tail h0))
  have h2 : Lib.TabIs Tryd.prog W "holdfast/hash.roundWords" .u32 KZ :=
    Lib.tabIs_of_head (rest := []) gTab gTabType Tryd.underlying185 Tryd.underlying129 cellsWord cellsTab h1
  intro i hi
  have h3 := h2.cell gTab i hi
  rw [h3]
  have h4 := kz_at ⟨i, hi⟩
  simp only at h4
  show some (Value.int .u32 (KZ.getD i 0)) = some (.int .u32 _)
  rw [← h4, List.getD_eq_getElem?_getD, List.getElem?_eq_getElem (show i < KZ.length from hi)]
  rfl
theorem tab8_of {W : World} (h : laidMetH Tryd.prog laidList W) : TabAt W := by
  have h0 : laidMet Tryd.prog laidList W := h
  have h1 := laidMet.tail h0
  have h2 : Lib.TabIs Tryd.prog W "math/bits.deBruijn64tab" .u8 [0, 1, 56, 2, 57, 49, 28, 3, 61, 58, 42, 50, 38, 29, 17, 4, 62, 47, 59, 36, 45, 43, 51, 22, 53, 39, 33, 30, 24, 18, 12, 5, 63, 55, 48, 27, 60, 41, 37, 16, 46, 35, 44, 21, 52, 32, 23, 11, 54, 26, 40, 15, 34, 20, 31, 10, 25, 14, 19, 9, 13, 8, 7, 6] :=
    Lib.tabIs_of_head (rest := [("internal/strconv.uint64pow10", Rows.laid_internal_strconv_uint64pow10), ("holdfast/hash.roundWords", Rows.laid_holdfast_hash_roundWords)]) gTab8 gTabType8 Tryd.underlying132 Tryd.underlying5 cellsByte cellsTab8 h1
  exact h2.cell gTab8 15 (by decide)
theorem tab_of {W : World} (h : laidMetH Tryd.prog laidList W) : Tabs W W.heap.size :=
  ⟨tab8_of h, kat_of h, World.block_lt_of_cell? W ⟨4, 15, none⟩ (tab8_of h), World.block_lt_of_cell? W ⟨0, 0, none⟩ (kat_of h 0 (by decide))⟩
def laidAs (c : Array Value) : Obj → Obj
  | .cells _ t frozen => .cells c t frozen
  | o => o
def laidWorld (w : World) : World :=
  { w with heap := (((w.heap.modify 2 (laidAs #[.int .u64 1, .int .u64 10, .int .u64 100, .int .u64 1000, .int .u64 10000, .int .u64 100000, .int .u64 1000000, .int .u64 10000000, .int .u64 100000000, .int .u64 1000000000, .int .u64 10000000000, .int .u64 100000000000, .int .u64 1000000000000, .int .u64 10000000000000, .int .u64 100000000000000, .int .u64 1000000000000000, .int .u64 10000000000000000, .int .u64 100000000000000000, .int .u64 1000000000000000000, .int .u64 10000000000000000000])).modify 3 (laidAs #[.int .u8 0, .int .u8 1, .int .u8 28, .int .u8 2, .int .u8 29, .int .u8 14, .int .u8 24, .int .u8 3, .int .u8 30, .int .u8 22, .int .u8 20, .int .u8 15, .int .u8 25, .int .u8 17, .int .u8 4, .int .u8 8, .int .u8 31, .int .u8 27, .int .u8 13, .int .u8 23, .int .u8 21, .int .u8 19, .int .u8 16, .int .u8 7, .int .u8 26, .int .u8 12, .int .u8 18, .int .u8 6, .int .u8 11, .int .u8 5, .int .u8 10, .int .u8 9])).modify 4 (laidAs #[.int .u8 0, .int .u8 1, .int .u8 56, .int .u8 2, .int .u8 57, .int .u8 49, .int .u8 28, .int .u8 3, .int .u8 61, .int .u8 58, .int .u8 42, .int .u8 50, .int .u8 38, .int .u8 29, .int .u8 17, .int .u8 4, .int .u8 62, .int .u8 47, .int .u8 59, .int .u8 36, .int .u8 45, .int .u8 43, .int .u8 51, .int .u8 22, .int .u8 53, .int .u8 39, .int .u8 33, .int .u8 30, .int .u8 24, .int .u8 18, .int .u8 12, .int .u8 5, .int .u8 63, .int .u8 55, .int .u8 48, .int .u8 27, .int .u8 60, .int .u8 41, .int .u8 37, .int .u8 16, .int .u8 46, .int .u8 35, .int .u8 44, .int .u8 21, .int .u8 52, .int .u8 32, .int .u8 23, .int .u8 11, .int .u8 54, .int .u8 26, .int .u8 40, .int .u8 15, .int .u8 34, .int .u8 20, .int .u8 31, .int .u8 10, .int .u8 25, .int .u8 14, .int .u8 19, .int .u8 9, .int .u8 13, .int .u8 8, .int .u8 7, .int .u8 6])).modify 0 (laidAs #[.int .u32 1116352408, .int .u32 1899447441, .int .u32 3049323471, .int .u32 3921009573, .int .u32 961987163, .int .u32 1508970993, .int .u32 2453635748, .int .u32 2870763221, .int .u32 3624381080, .int .u32 310598401, .int .u32 607225278, .int .u32 1426881987, .int .u32 1925078388, .int .u32 2162078206, .int .u32 2614888103, .int .u32 3248222580, .int .u32 3835390401, .int .u32 4022224774, .int .u32 264347078, .int .u32 604807628, .int .u32 770255983, .int .u32 1249150122, .int .u32 1555081692, .int .u32 1996064986, .int .u32 2554220882, .int .u32 2821834349, .int .u32 2952996808, .int .u32 3210313671, .int .u32 3336571891, .int .u32 3584528711, .int .u32 113926993, .int .u32 338241895, .int .u32 666307205, .int .u32 773529912, .int .u32 1294757372, .int .u32 1396182291, .int .u32 1695183700, .int .u32 1986661051, .int .u32 2177026350, .int .u32 2456956037, .int .u32 2730485921, .int .u32 2820302411, .int .u32 3259730800, .int .u32 3345764771, .int .u32 3516065817, .int .u32 3600352804, .int .u32 4094571909, .int .u32 275423344, .int .u32 430227734, .int .u32 506948616, .int .u32 659060556, .int .u32 883997877, .int .u32 958139571, .int .u32 1322822218, .int .u32 1537002063, .int .u32 1747873779, .int .u32 1955562222, .int .u32 2024104815, .int .u32 2227730452, .int .u32 2361852424, .int .u32 2428436474, .int .u32 2756734187, .int .u32 3204031479, .int .u32 3329325298]) }
theorem laid_met (os : Os) (args : Array Value) : laidMet Tryd.prog laidList ((laidWorld (World.holding Tryd.prog os ⟨#[], #[], []⟩)).forCall (fun _ _ => 0) ⟨#[], args, []⟩).memory :=
  laidMet_of_run' 8 (by kernel_rfl) (by kernel_rfl)
structure BytesIn (w : World) (a : Option Addr) (cap : Nat) (l : List UInt8) : Prop where
  bytes : Bytes w a l
  nilcap : a = none → cap = 0
  cap : l.length ≤ cap
  length : l.length ≤ 140737488351232
theorem bytesByte : Tryd.prog.bytesOf 5 = 1 := by kernel_rfl
theorem open_bytes {H : Type} {enc : TypeId × Value → H} {W : World} {ts : List TypeId} {ds : List (DataW H)} {j : Nat} {a : Option Addr} {len cap : Nat} {d : DataW H} {p : List MemPlace}
    (hsz : (DataW.weightsEach Tryd.prog ts ds).all (· ≤ reachBytes) = true) (ht : ts[j]? = some 40) (hd : ds[j]? = some d)
    (h : DataW.Trod enc Tryd.prog W 0 (fun _ => true) true 40 (.slice a len cap) d p) : ∃ l : List UInt8, l.length = len ∧ BytesIn W a cap l := by
  obtain ⟨fuel, hf⟩ := h
  rcases open_ints Tryd.underlying40 Tryd.underlying5 cellsByte hf with ⟨hcs, _⟩ | ⟨x, l', c', zs, hcs, _, hl, hm, hz, hx, hcell, hwz⟩
  · simp [Value.cells] at hcs
    obtain ⟨rfl, rfl, rfl⟩ := hcs
    exact ⟨[], rfl, fun i hi => by simp at hi, fun _ => rfl, by simp, by simp⟩
  · simp [Value.cells] at hcs
    obtain ⟨rfl, rfl, rfl⟩ := hcs
    simp only [Prod.mk.injEq] at hx
    obtain ⟨rfl, _⟩ := hx
    simp only [if_true] at hz
    have hlen : ((zs.take len).map fun z => UInt8.ofNat z.toNat).length = len := by rw [List.length_map, List.length_take]; omega
    refine ⟨(zs.take len).map fun z => UInt8.ofNat z.toNat, hlen, fun i hi => ?_, (fun h => by cases h), by rw [hlen]; exact hl, ?_⟩
    · obtain ⟨b, o, spot⟩ := x
      have hc := hcell i (by omega)
      have hspot : spot = none := by simpa [Addr.add] using World.cell?_spot (hcell 0 (by omega))
      subst hspot
      refine ⟨b, o, rfl, ?_⟩
      rw [addr_add] at hc
      rw [hc]
      have hi' : i < zs.length := by omega
      have hw := hwz zs[i] (List.getElem_mem _)
      have hr : 0 ≤ zs[i] ∧ zs[i] ≤ 255 := by simpa [Lit.wf, IntKind.min, IntKind.max, IntKind.signed, IntKind.bits] using hw
      simp only [List.getD, List.getElem?_eq_getElem hi', Option.getD_some, List.getElem_map, List.getElem_take]
      congr 2
      rw [UInt8.toNat_ofNat']
      omega
    · have := sized_slice hsz ht hd Tryd.underlying40
      rw [bytesByte] at this
      simp only [lits, List.length_map, reachBytes] at this
      rw [hlen]
      simp only [List.length_take, List.length_drop] at this
      omega
end Go.Proofs.YthfmpebgmojcaaaDoor
/- TopChained: adding. -/
namespace Go.Proofs.YthfmpebgmojcaaaDoor
open Go.RowKit
set_option linter.unusedVariables false
set_option maxRecDepth 20000
structure AddI (c : Ch) (k : Nat) : Prop where
  md : Made c k
  len : c.ev.length = k
  bn : c.bn = 0
  la : c.la ≤ k
  sz : ∀ e ∈ c.ev, 0 < e.what.size ∧ 0 < e.who.size
theorem addI0 : AddI ch0 0 := ⟨made0, rfl, rfl, Nat.le_refl _, fun e he => by cases he⟩
def wW : ByteArray := ⟨#[119]⟩
def wA (n : Nat) : ByteArray := ⟨#[UInt8.ofNat n]⟩
theorem AddI.zero {c : Ch} {k : Nat} (h : AddI c k) (hk : k < 20) (n : Nat) : addE c (k : Int) (wA n) wW = 0 := by
  have h1 := h.la
  have h2 := h.len
  have s1 : (wA n).size = 1 := rfl
  have s2 : wW.size = 1 := rfl
  unfold addE
  rw [if_neg (by omega), if_neg (by omega), if_neg (by omega), if_neg (by omega)]
theorem AddI.next {c : Ch} {k : Nat} (h : AddI c k) (hk : k < 20) (n : Nat) : AddI (addR c (k : Int) (wA n) wW) (k + 1) := by
  have hz := h.zero hk n
  have hr : addR c (k : Int) (wA n) wW = addC c (k : Int) (wA n) wW := if_pos hz
  refine ⟨h.md.add _ _ _, ?_, ?_, ?_, ?_⟩
  · rw [hr]; show (c.ev ++ [_]).length = k + 1; rw [List.length_append, h.len]; rfl
  · rw [hr]; exact h.bn
  · rw [hr]; show (k : Int).toNat ≤ k + 1; omega
  · rw [hr]
    intro e he
    rcases List.mem_append.1 (show e ∈ c.ev ++ [newE c (k : Int) (wA n) wW] from he) with he | he
    · exact h.sz e he
    · obtain rfl := List.mem_singleton.1 he
      exact ⟨by show 0 < 1; omega, by show 0 < 1; omega⟩
theorem conv1C (W : World) (n : Nat) (hn : n ≤ 255) : (convert 40 9 (.slice (some ⟨W.heap.size, 0, none⟩) 1 1)).run Tryd.prog (W.alloc (.cells #[.int .u8 (n : Int)] 5)) = .ok (.string (wA n)) (W.alloc (.cells #[.int .u8 (n : Int)] 5)) := by
  have h := cv1 W (UInt8.ofNat n)
  rw [show (UInt8.ofNat n).toNat = n by rw [UInt8.toNat_ofNat']; omega] at h
  exact h
structure CA (W wr : World) (B gc g mv mg : Nat) (root : List UInt8) (k : Nat) (v : Value) (c : Ch) : Prop where
  ch : ChAt wr B gc v c
  tr : Ky.TreeM wr B g mv mg root (Ky.tsn 0) 0
  ad : AddI c k
  tb : Tabs wr B
  bel : Below B W wr
  hB : B ≤ wr.heap.size
section
variable {W w w' : World} {B gc g mv mg k : Nat} {root : List UInt8} {v : Value} {c : Ch}
theorem CA.below (h : CA W w B gc g mv mg root k v c) (hb : Below w.heap.size w w') : CA W w' B gc g mv mg root k v c :=
  ⟨h.ch.below hb, h.tr.below hb, h.ad, h.tb.below h.hB hb, h.bel.trans (hb.mono h.hB), Nat.le_trans h.hB hb.size⟩
theorem tree_out (ht : Ky.TreeM w B g mv mg root (Ky.tsn 0) 0) (hc : ChAt w B gc v c) (o : Out (CBlk gc v) w w') : Ky.TreeM w' B g mv mg root (Ky.tsn 0) 0 := by
  obtain ⟨⟨c0, h0⟩, ⟨e1, c1, h1⟩, ⟨e2, c2, h2⟩, _⟩ := ht.blocks
  refine ht.outJ (P := CBlk gc v) ⟨o.os, o.tape, o.output, o.size, o.block⟩ ?_ ?_ ?_
  · rintro (rfl | e)
    · rw [hc.obj] at h0; cases h0
    · obtain ⟨cur, h9⟩ := own_obj hc.row e; rw [h0] at h9; cases h9
  · rintro (rfl | e)
    · rw [hc.obj] at h1; cases h1
    · obtain ⟨cur, h9⟩ := own_obj hc.row e; rw [h1] at h9; cases h9
  · rintro (rfl | e)
    · rw [hc.obj] at h2; cases h2
    · obtain ⟨cur, h9⟩ := own_obj hc.row e; rw [h2] at h9; cases h9
theorem ca_add (h : CA W w B gc g mv mg root k v c) (hk : k < 20) (n : Nat) :
    Calls Tryd.prog 20 #[.pointer (some ⟨gc, 0, none⟩), .int .i64 (k : Int), .string (wA n), .string wW] w fun e w' => ∃ (p : Nat) (v' : Value) (c' : Ch), e = .returned (.tuple #[.agg #[.int .i64 (p : Int), .int .i64 (k : Int), .string (wA n), .string wW], .int .i64 0]) ∧ CA W w' B gc g mv mg root (k + 1) v' c' := by
  have hcn : c.cnt < 1152921504606846976 := by have := h.ad.md.cnt; omega
  refine (add_any h.ch h.ad.md.ok hcn h.hB (k : Int) (wA n) wW (by show 1 ≤ 9223372036854775807; omega) (by show 1 ≤ 9223372036854775807; omega) h.tb).mono fun e w' h9 => ?_
  obtain ⟨v', h1, h2, h3, _⟩ := h9
  have hz := h.ad.zero hk n
  have hev : addEv c (k : Int) (wA n) wW = newE c (k : Int) (wA n) wW := if_pos hz
  rw [hz, hev] at h1
  have hb : Below B w w' := h3.below h.hB h.ch.blk
  refine ⟨c.cnt + 1, v', _, ?_, h2, tree_out h.tr h.ch h3, h.ad.next hk n, h.tb.keep hb, h.bel.trans hb, Nat.le_trans h.hB hb.size⟩
  rw [h1]
  unfold newE eVals
  rw [show ((k : Int).toNat : Int) = (k : Int) by omega]
theorem ca_anchor (h : CA W w B gc g mv mg root k v c) (hk : k ≤ 20) :
    Calls Tryd.prog 27 #[.pointer (some ⟨gc, 0, none⟩)] w fun e w' => ∃ x, e = .returned x ∧ CA W w' B gc g mv mg root k v (ancC c) ∧ (ancC c).an = (ancC c).ev.length := by
  have hcn : c.cnt < 1152921504606846976 := by have := h.ad.md.cnt; omega
  refine (anchor_any h.ch h.ad.md.ok hcn).mono fun e w' ⟨h1, h2, h3⟩ => ?_
  have h3' : Out (CBlk gc v) w w' := h3.imp fun i _ hi => .inl hi
  have hb : Below B w w' := h3'.below h.hB h.ch.blk
  refine ⟨_, h1, ⟨h2, tree_out h.tr h.ch h3', ⟨h.ad.md.anc, h.ad.len, h.ad.bn, h.ad.la, h.ad.sz⟩, h.tb.keep hb, h.bel.trans hb, Nat.le_trans h.hB hb.size⟩, ?_⟩
  show c.cnt = c.ev.length
  unfold Ch.cnt
  rw [h.ad.bn]
  omega
end
theorem cp_start {W w w' : World} {B gc g mv mg k : Nat} {root : List UInt8} {v : Value} {c : Ch} (h : CA W w B gc g mv mg root k v c) {vR : Value} {rs : List Xr.RC} (ho : w'.ownsRow w.heap.size 75 2 vR rs.length (Xr.rcCells rs)) (hi : Xr.RowsIs w' rs (rowsX c)) (hb : Below w.heap.size w w') : CP W w' B w'.heap.size gc g mv mg root v c vR rs 0 0 (.slice none 0 0) [] := by
  have h' := h.below hb
  exact ⟨h'.ch, h'.tr, own_monoW ho h.hB, hi, World.ownsRow_nil _ _ _ _, trivial, h'.tb, h'.bel, h'.hB, Nat.le_refl _, fun k hk => (ho.lt k hk).2⟩
theorem made_ldable {c : Ch} {n : Nat} (h : Made c n) (hn : n ≤ 1000) : Ldable c := by
  have h1 := h.cnt
  have h2 := h.ok.anc
  unfold Ch.cnt at h1
  exact ⟨h.ok.l, by omega, by omega, h.ok.las, h.ok.few, h.ok.anc, h.ok.num, h.ok.siz, h.ok.tim, h.up⟩
theorem txRows_of {w : World} {B : Nat} {v : Value} {bs : List Xr.RC} {c : Ch} (ho : w.ownsRow B 75 2 v bs.length (Xr.rcCells bs)) (hi : Xr.RowsIs w bs (rowsX c)) : ∃ b cap, v = .slice (some ⟨b, 0, none⟩) (4 + c.ev.length) cap ∧ 4 + c.ev.length ≤ cap ∧ TxRows w b (rowsOf c) := by
  have hl := hi.length
  rw [rowsX_len] at hl
  obtain ⟨b, cap, e0, _⟩ := Xr.rows_at ho 0 (by omega)
  have hcap : bs.length ≤ cap := by
    rcases ho.2 with ⟨e, _⟩ | ⟨g, cap', cur, e, _, _, hc, _⟩
    · rw [e] at e0; cases e0
    · rw [e] at e0; cases e0; exact hc
  refine ⟨b, cap, by rw [e0, hl], by omega, fun i h => ?_⟩
  have hib : i < bs.length := by rw [rowsOf_len] at h; omega
  have hix : i < (rowsX c).length := by rw [rowsX_len]; rw [rowsOf_len] at h; exact h
  obtain ⟨g, cp, e1, k1, k2⟩ := Xr.rows_at ho i hib
  rw [e0] at e1
  cases e1
  obtain ⟨r1, r2, r3⟩ := hi.get i hib hix
  have hx : (rowsX c)[i] = toX ((rowsOf c)[i]) := by simp [rowsX]
  rw [hx] at r1 r2 r3
  rw [r1] at k1
  rw [r2] at k2
  exact ⟨_, _, k1, k2, r3.texts⟩
theorem rowsX_ne (c : Ch) : ∀ x ∈ rowsX c, x.cols ≠ [] := fun x hx => by
  obtain ⟨p, hp, rfl⟩ := List.mem_map.1 hx
  exact rowsOf_ne c p hp
theorem key_small {c : Ch} (h : Ldable c) : ∀ x ∈ rowsX c, x.key.size ≤ 140737488351232 := fun x hx => by
  obtain ⟨p, hp, rfl⟩ := List.mem_map.1 hx
  rcases List.mem_append.1 hp with hp | hp
  · simp only [headRows, List.mem_cons, List.not_mem_nil, or_false] at hp
    rcases hp with rfl | rfl | rfl | rfl <;> (show 1 ≤ 140737488351232; omega)
  · obtain ⟨e, he, rfl⟩ := List.mem_map.1 hp
    obtain ⟨i, hi, rfl⟩ := List.mem_iff_getElem.1 he
    have h1 := h.num i hi
    have h2 := h.bn
    have h3 := h.few
    have h4 := txt_size (c.ev[i].num) (by omega)
    show (evKey _).size ≤ 140737488351232
    unfold evKey
    rw [ByteArray.size_append]
    show 1 + _ ≤ 140737488351232
    omega
theorem cols_small {c : Ch} {k : Nat} (h : AddI c k) (hk : k ≤ 20) : ∀ x ∈ rowsX c, ∀ s ∈ x.cols, 0 < s.size ∧ s.size ≤ 100 := by
  have hn : ∀ n, n ≤ 4611686018427387904 → 0 < (txt n).size ∧ (txt n).size ≤ 100 := fun n hn => ⟨by
    show 0 < (numT n).toArray.size
    unfold numT
    split
    · decide
    · simp, txt_size n hn⟩
  have hm : ∀ l : List UInt8, l.length = 32 → 0 < (mkB l).size ∧ (mkB l).size ≤ 100 := fun l hl => by
    have : (mkB l).size = 32 := by show l.toArray.size = 32; simpa using hl
    omega
  have hld := made_ldable h.md (by omega)
  have q1 := hld.bn
  have q2 := hld.an
  have q3 := hld.la
  intro x hx s hs
  obtain ⟨p, hp, rfl⟩ := List.mem_map.1 hx
  rcases List.mem_append.1 hp with hp | hp
  · simp only [headRows, List.mem_cons, List.not_mem_nil, or_false] at hp
    rcases hp with rfl | rfl | rfl | rfl
    · simp only [toX, List.map_cons, List.map_nil, List.mem_cons, List.not_mem_nil, or_false] at hs
      rcases hs with rfl | rfl | rfl
      · exact hn _ (by omega)
      · exact hn _ (by omega)
      · exact hn _ (by omega)
    · obtain rfl := List.mem_singleton.1 hs; exact hm _ hld.l.lan
    · obtain rfl := List.mem_singleton.1 hs; exact hm _ hld.l.lb
    · obtain rfl := List.mem_singleton.1 hs; exact hm _ hld.l.lh
  · obtain ⟨e, he, rfl⟩ := List.mem_map.1 hp
    have s1 := h.sz e he
    have s2 := hld.siz e he
    have s3 := hld.tim e he
    simp only [toX, evText, List.mem_cons, List.not_mem_nil, or_false] at hs
    rcases hs with rfl | rfl | rfl
    · exact hn _ (by omega)
    · omega
    · omega
end Go.Proofs.YthfmpebgmojcaaaDoor
/- TopChained: the rows without one of them. (Printed by gen/tc6.py.) -/
namespace Go.Proofs.YthfmpebgmojcaaaDoor
open Go.RowKit
set_option linter.unusedVariables false
set_option maxRecDepth 20000
theorem sl_to (w : World) (b M cb out : Nat) (h : out ≤ cb) : (Instr.sliceAt 22 (.slice (some ⟨b, 0, none⟩) M cb) none (some (.int .i64 (out : Int))) none).run Tryd.prog w = .ok (.slice (some ⟨b, 0, none⟩) out cb) w := by
  have h1 : (out : Int) ≤ (cb : Int) := by omega
  simp [go_sem, h1]
theorem sl_from (w : World) (b M cb k : Nat) (h : k ≤ M) (hc : M ≤ cb) : (Instr.sliceAt 22 (.slice (some ⟨b, 0, none⟩) M cb) (some (.int .i64 (k : Int))) none none).run Tryd.prog w = .ok (.slice (some (if cb = k then ⟨b, 0, none⟩ else ⟨b, k * 2, none⟩)) (M - k) (cb - k)) w := by
  have h1 : (k : Int) ≤ (M : Int) := by omega
  simp [go_sem, h1]
  split <;> rfl
theorem yg_slc {P : Program} {ops : Array Oper} {S : World → Prop} {op : Oper} {a : Act} {v : Value} (hw : Region.wanted op (yielded ops a.tmps) = true) (x : Operand) {t : TypeId} {lo hi mx : Option Operand} (ho : op.op = .slice t x lo hi mx) {u : Value} {l' h' m' : Option Value} (hx : a.eval x = u) (hl : lo.map a.eval = l') (hh : hi.map a.eval = h') (hm : mx.map a.eval = m') (h : ∀ w, (Instr.sliceAt t u l' h' m').run P w = .ok v w) : YieldsIf P ops S op v a := by
  subst hx; subst hl; subst hh; subst hm
  exact yg hw (by simp only [execOp, ho]) (fun w _ => h w)
theorem app_midR {o : Oper} {a : Act} {K : Act → World → Prop} {Q : Exit → Act → World → Prop} (W : World) (sl x : Operand)
    (ho : o.op = .call { callee := .builtin .append, args := #[sl, x], argTypes := #[22, 22] }) (base : Nat) (v : Value) (l : List Xr.RC) (hs : a.eval sl = v) (hown : W.ownsRow base 75 2 v l.length (Xr.rcCells l))
    (ad : Addr) (n2 cap : Nat) (l2 : List Xr.RC) (hn : n2 = l2.length) (hx : a.eval x = .slice (some ad) n2 cap) (hc : ∀ j u, (Xr.rcCells l2)[j]? = some u → W.cell? (ad.add j) = some u) (hb : l.length + l2.length ≤ 3000000000) (hbase : base ≤ W.heap.size)
    (h : ∀ v' w', w'.ownsRow base 75 2 v' (l ++ l2).length (Xr.rcCells (l ++ l2)) → W.grownBy w' v.ownBlock → K (a.put o.dst v') w') :
    o.wp Tryd.prog a W K Q := by
  subst hn
  obtain ⟨i0, hi, hz0, hz1, hz2⟩ := info_parts Xr.infoRow
  refine wp_append_own _ sl x 22 ho base 75 i0 (.agg #[.string ⟨#[]⟩, .slice none 0 0]) 2 40 Tryd.underlying22 hi hz0 hz1 hz2 rfl (by decide) v l.length (Xr.rcCells l) hs hown ad l2.length cap (Xr.rcCells l2) hx (Xr.rcCells_length l2) hc (Xr.rcCells_one l2) (by unfold maxLen; omega) (by omega) hbase ?_
  intro v' w' h1 h2 h3
  refine h v' w' ?_ h2
  rw [Xr.rcCells_app, List.length_append]
  exact h1
theorem add_at (b o j : Nat) : (⟨b, o, none⟩ : Addr).add j = ⟨b, o + j, none⟩ := by unfold Addr.add; split <;> simp_all
theorem rc_take (bs : List Xr.RC) (k : Nat) : Xr.rcCells (bs.take k) = (Xr.rcCells bs).take (k * 2) := by
  induction bs generalizing k with
  | nil => simp [Xr.rcCells]
  | cons r l ih =>
    cases k with
    | zero => simp [Xr.rcCells]
    | succ k =>
      have e : (k + 1) * 2 = k * 2 + 1 + 1 := by omega
      show Xr.rcCells (r :: l.take k) = (Value.string r.key :: Value.slice r.ad r.len r.cap :: Xr.rcCells l).take ((k + 1) * 2)
      rw [e, List.take_succ_cons, List.take_succ_cons, ← ih]
      rfl
theorem rc_drop (bs : List Xr.RC) (k : Nat) : Xr.rcCells (bs.drop k) = (Xr.rcCells bs).drop (k * 2) := by
  induction bs generalizing k with
  | nil => simp [Xr.rcCells]
  | cons r l ih =>
    cases k with
    | zero => simp [Xr.rcCells]
    | succ k =>
      have e : (k + 1) * 2 = k * 2 + 1 + 1 := by omega
      show Xr.rcCells (l.drop k) = (Value.string r.key :: Value.slice r.ad r.len r.cap :: Xr.rcCells l).drop ((k + 1) * 2)
      rw [e, List.drop_succ_cons, List.drop_succ_cons, ← ih]
section
variable {w : World} {G b M cb : Nat} {bs : List Xr.RC}
theorem cell_row (h : w.ownsRow G 75 2 (.slice (some ⟨b, 0, none⟩) M cb) bs.length (Xr.rcCells bs)) (hM : M = bs.length) (j : Nat) (u : Value) (hj : (Xr.rcCells bs)[j]? = some u) : w.cell? ⟨b, j, none⟩ = some u := by
  have hjl : j < (Xr.rcCells bs).length := (List.getElem?_eq_some_iff.1 hj).1
  rw [Xr.rcCells_length] at hjl
  subst hM
  have := World.ownsRow.cellAt h j hjl
  rw [this]
  exact hj
theorem cells_take (h : w.ownsRow G 75 2 (.slice (some ⟨b, 0, none⟩) M cb) bs.length (Xr.rcCells bs)) (hM : M = bs.length) (k : Nat) : ∀ j u, (Xr.rcCells (bs.take k))[j]? = some u → w.cell? ((⟨b, 0, none⟩ : Addr).add j) = some u := fun j u hj => by
  rw [add_at, Nat.zero_add]
  refine cell_row h hM j u ?_
  rw [rc_take] at hj
  have hl := (List.getElem?_eq_some_iff.1 hj).1
  rw [List.length_take] at hl
  rw [List.getElem?_take_of_lt (by omega)] at hj
  exact hj
theorem cells_drop {k : Nat} (h : w.ownsRow G 75 2 (.slice (some ⟨b, 0, none⟩) M cb) bs.length (Xr.rcCells bs)) (hM : M = bs.length) (hcb : M ≤ cb) (hk : k < M) : ∀ j u, (Xr.rcCells (bs.drop (k + 1)))[j]? = some u → w.cell? ((if cb = k + 1 then (⟨b, 0, none⟩ : Addr) else ⟨b, (k + 1) * 2, none⟩).add j) = some u := fun j u hj => by
  rw [rc_drop] at hj
  have hl := (List.getElem?_eq_some_iff.1 hj).1
  rw [List.length_drop, Xr.rcCells_length] at hl
  rw [if_neg (by omega), add_at]
  rw [List.getElem?_drop] at hj
  exact cell_row h hM _ u hj
end
noncomputable def codeTC (n : Nat) : Code := ((Tryd.f5.body.bind (regionAt n)).getD .skip)
set_option maxHeartbeats 4000000 in
theorem tc_region32 {V0 W5 : World} {G b M cb out : Nat} {bs : List Xr.RC} {A : Act} (sz : A.tmps.size = 168) (e23 : A.eval (.tmp 23) = .slice none 0 0) (e10 : A.eval (.tmp 10) = .slice (some ⟨b, 0, none⟩) M cb) (e22 : A.eval (.tmp 22) = .int .i64 (out : Int)) (hM : M = bs.length) (ho : out < M) (hcb : M ≤ cb) (hM24 : M ≤ 24) (hadd : IntKind.i64.wrap ((out : Int) + 1) = ((out + 1 : Nat) : Int)) (hV0 : V0 = W5.drew) (hs0 : V0.ownsRow G 75 2 (.slice (some ⟨b, 0, none⟩) M cb) bs.length (Xr.rcCells bs)) :
    (codeTC 32).wp Tryd.prog (fun x a V => x = .normal ∧ ∃ v1 v2 : Value, a = (((((((((((A.put (some 151) (.slice none 0 0)).put (some 152) (.slice (some ⟨b, 0, none⟩) M cb)).put (some 153) (.int .i64 (out : Int))).put (some 154) (.slice (some ⟨b, 0, none⟩) out cb)).put (some 156) (.slice (some ⟨b, 0, none⟩) M cb)).put (some 157) (.int .i64 (out : Int))).put (some 158) (.int .i64 ((out + 1 : Nat) : Int))).put (some 159) (.slice (some (if cb = out + 1 then ⟨b, 0, none⟩ else ⟨b, (out + 1) * 2, none⟩)) (M - (out + 1)) (cb - (out + 1)))).put (some 155) (v1)).put (some 160) (v2)).put (some 23) (v2)) ∧ V.ownsRow V0.heap.size 75 2 v2 (bs.take out ++ bs.drop (out + 1)).length (Xr.rcCells (bs.take out ++ bs.drop (out + 1))) ∧ Below V0.heap.size V0 V) A W5 := by
  have hm : Tryd.prog.follows .mixedOrders = true := by kernel_rfl
  unfold codeTC
  conv => arg 2; whnf
  refine wp_region_G (fun _ => false) (fun V => V.ownsRow G 75 2 (.slice (some ⟨b, 0, none⟩) M cb) bs.length (Xr.rcCells bs)) hm ?_
  rw [show ({ W5 with drawn := W5.drawn + 1 } : World) = V0 from hV0.symm]
  refine tkG (i := 0) (d := 151) (v := .slice none 0 0) rfl rfl (yg_mv (by simp [Region.wanted]) (.tmp 23) rfl e23) hs0 ?_
  refine tkG (i := 1) (d := 152) (v := .slice (some ⟨b, 0, none⟩) M cb) rfl rfl (yg_mv (by simp [Region.wanted]) (.tmp 10) rfl (evn e10)) hs0 ?_
  refine tkG (i := 2) (d := 153) (v := .int .i64 (out : Int)) rfl rfl (yg_mv (by simp [Region.wanted]) (.tmp 22) rfl (evn (evn e22))) hs0 ?_
  refine tkG (i := 3) (d := 154) (v := .slice (some ⟨b, 0, none⟩) out cb) rfl rfl (yg_slc (by simp [Region.wanted]) (.tmp 152) rfl (evn (ev_eq _ _ (by simp [put_sz, sz]))) rfl (congrArg some (ev_eq _ _ (by simp [put_sz, sz]))) rfl (fun w => sl_to w b M cb out (by omega))) hs0 ?_
  refine tkG (i := 5) (d := 156) (v := .slice (some ⟨b, 0, none⟩) M cb) rfl rfl (yg_mv (by simp [Region.wanted]) (.tmp 10) rfl (evn (evn (evn (evn e10))))) hs0 ?_
  refine tkG (i := 6) (d := 157) (v := .int .i64 (out : Int)) rfl rfl (yg_mv (by simp [Region.wanted]) (.tmp 22) rfl (evn (evn (evn (evn (evn e22)))))) hs0 ?_
  refine tkG (i := 7) (d := 158) (v := .int .i64 ((out + 1 : Nat) : Int)) rfl rfl (y_addi (by simp [Region.wanted]) (.tmp 157) (.const (.int .i64 1)) rfl _ _ _ (ev_eq _ _ (by simp [put_sz, sz])) rfl hadd) hs0 ?_
  refine tkG (i := 8) (d := 159) (v := .slice (some (if cb = out + 1 then ⟨b, 0, none⟩ else ⟨b, (out + 1) * 2, none⟩)) (M - (out + 1)) (cb - (out + 1))) rfl rfl (yg_slc (by simp [Region.wanted]) (.tmp 156) rfl (evn (evn (ev_eq _ _ (by simp [put_sz, sz])))) (congrArg some (ev_eq _ _ (by simp [put_sz, sz]))) rfl rfl (fun w => sl_from w b M cb (out + 1) (by omega) hcb)) hs0 ?_
  refine wpAnyG_all (rs := [4]) (by kernel_rfl) (by simp) fun i1 hm1 => ?_
  obtain rfl : i1 = 4 := by simpa using hm1
  refine wpOp_own rfl rfl fun K1 hK1 => ?_
  refine app_midR V0 (.tmp 151) (.tmp 154) rfl V0.heap.size (.slice none 0 0) [] (evn (evn (evn (evn (evn (evn (evn (ev_eq _ _ (by simp [sz]))))))))) (World.ownsRow_nil _ _ _ _) ⟨b, 0, none⟩ out cb (bs.take out) (by rw [List.length_take]; omega) (evn (evn (evn (evn (ev_eq _ _ (by simp [put_sz, sz])))))) (cells_take hs0 hM out) (by simp; omega) (Nat.le_refl _) ?_
  intro v1 V1 ho1 hg1
  have hb1 : Below V0.heap.size V0 V1 := ⟨hg1.os, hg1.tape, hg1.output, hg1.size, fun k hk => hg1.block k hk (by simp [Value.ownBlock])⟩
  have hs1 := own_onW hs0 hb1
  rw [List.nil_append] at ho1
  refine hK1 _ _ ⟨.inr hs1, ?_⟩
  clear hK1 K1 hm1
  show wpAnyG _ _ _ _ _ _ _ _ (((((((((A.put (some 151) (.slice none 0 0)).put (some 152) (.slice (some ⟨b, 0, none⟩) M cb)).put (some 153) (.int .i64 (out : Int))).put (some 154) (.slice (some ⟨b, 0, none⟩) out cb)).put (some 156) (.slice (some ⟨b, 0, none⟩) M cb)).put (some 157) (.int .i64 (out : Int))).put (some 158) (.int .i64 ((out + 1 : Nat) : Int))).put (some 159) (.slice (some (if cb = out + 1 then ⟨b, 0, none⟩ else ⟨b, (out + 1) * 2, none⟩)) (M - (out + 1)) (cb - (out + 1)))).put (some 155) (v1)) _
  refine wpAnyG_all (rs := [9]) (by kernel_rfl) (by simp) fun i2 hm2 => ?_
  obtain rfl : i2 = 9 := by simpa using hm2
  refine wpOp_own rfl rfl fun K2 hK2 => ?_
  refine app_midR V1 (.tmp 155) (.tmp 159) rfl V0.heap.size v1 (bs.take out) (ev_eq _ _ (by simp [put_sz, sz])) ho1 (if cb = out + 1 then ⟨b, 0, none⟩ else ⟨b, (out + 1) * 2, none⟩) (M - (out + 1)) (cb - (out + 1)) (bs.drop (out + 1)) (by rw [List.length_drop, hM]) (evn (ev_eq _ _ (by simp [put_sz, sz]))) (cells_drop hs1 hM hcb ho) (by simp; omega) hb1.size ?_
  intro v2 V2 ho2 hg2
  have hb2 : Below V0.heap.size V0 V2 := hb1.trans ⟨hg2.os, hg2.tape, hg2.output, hg2.size, fun k hk => hg2.block k (Nat.lt_of_lt_of_le hk hb1.size) (fun e => by have := (ho1.lt k e.symm).1; omega)⟩
  have hs2 := own_onW hs0 hb2
  refine hK2 _ _ ⟨.inr hs2, ?_⟩
  clear hK2 K2 hm2
  show wpAnyG _ _ _ _ _ _ _ _ ((((((((((A.put (some 151) (.slice none 0 0)).put (some 152) (.slice (some ⟨b, 0, none⟩) M cb)).put (some 153) (.int .i64 (out : Int))).put (some 154) (.slice (some ⟨b, 0, none⟩) out cb)).put (some 156) (.slice (some ⟨b, 0, none⟩) M cb)).put (some 157) (.int .i64 (out : Int))).put (some 158) (.int .i64 ((out + 1 : Nat) : Int))).put (some 159) (.slice (some (if cb = out + 1 then ⟨b, 0, none⟩ else ⟨b, (out + 1) * 2, none⟩)) (M - (out + 1)) (cb - (out + 1)))).put (some 155) (v1)).put (some 160) (v2)) _
  refine tkG (i := 10) (d := 23) (v := v2) rfl rfl (yg_as (by simp [Region.wanted]) (.tmp 160) rfl (ev_eq _ _ (by simp [put_sz, sz]))) hs2 ?_
  refine wpAnyG_done (by kernel_rfl) ⟨rfl, v1, v2, rfl, ho2, hb2⟩ _
end Go.Proofs.YthfmpebgmojcaaaDoor
