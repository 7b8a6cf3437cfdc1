/- YtdglmoikgmlaaaaGreatDoorJLift2 + YtdglmoikgmlaaaaGreatDoorJStr2 + YtdglmoikgmlaaaaGreatDoorJArgs + YtdglmoikgmlaaaaGreatDoorJP1 + YtdglmoikgmlaaaaGreatDoorJP2 -/
import Derived.Test.YtdglmoikgmlaaaaGreatDoorCards
import Derived.Test.YtdglmoikgmlaaaaGreatDoorTie
import Derived.Test.YtdglmoikgmlaaaaGreatDoorJToNum
import Derived.ProofKit
import Derived.OpenShut
import Derived.ShutString
import Derived.ChangeOld
import Derived.Deep.DeepHandedRow
import Derived.Lib.LaidTab
import Derived.Stop.LaidErr
import Derived.SizedLaws
import Derived.SliceStrings
import Derived.Lib.SmallJoins
import Derived.Deep.Slices
import Derived.ChangeSlices
import Derived.Test.YtdglmoikgmlaaaaGreatDoorJLX
/- What the rows' list of variables gives, and what every law's lift shares (four tables). -/
namespace Go.Proofs.YtdglmoikgmlaaaaGreatDoor
open Go.ChangeShapes Go.WideShapes Go.ChangeAt Go.RowKit
set_option maxRecDepth 20000
def TabsJ (w : World) : Prop := TabAt w ∧ KAt w
theorem own : ownKnob Tryz.prog.godebug = none := by kernel_rfl
theorem laidOut : laidOutB Tryz.prog = true := by kernel_rfl
theorem gTab : Tryz.prog.globalNamed "holdfast/hash.roundWords" = some 1 := by kernel_rfl
theorem gTabType : (Tryz.prog.globals[1]?).map (·.type) = some 163 := by kernel_rfl
theorem cellsTab : Tryz.prog.cellsOf 163 = 64 := by kernel_rfl
theorem cellsWord : Tryz.prog.cellsOf 127 = 1 := by kernel_rfl
theorem cellsByte : Tryz.prog.cellsOf 5 = 1 := by kernel_rfl
theorem gTab8 : Tryz.prog.globalNamed "math/bits.deBruijn64tab" = some 4 := by kernel_rfl
theorem gTabType8 : (Tryz.prog.globals[4]?).map (·.type) = some 130 := by kernel_rfl
theorem cellsTab8 : Tryz.prog.cellsOf 130 = 64 := by kernel_rfl
abbrev laidList : List (String × DataW Unit) := Rows.keysPlaysRow.laid
def KZ : List Int := [1116352408, 1899447441, 3049323471, 3921009573, 961987163, 1508970993, 2453635748, 2870763221, 3624381080, 310598401, 607225278, 1426881987, 1925078388, 2162078206, 2614888103, 3248222580, 3835390401, 4022224774, 264347078, 604807628, 770255983, 1249150122, 1555081692, 1996064986, 2554220882, 2821834349, 2952996808, 3210313671, 3336571891, 3584528711, 113926993, 338241895, 666307205, 773529912, 1294757372, 1396182291, 1695183700, 1986661051, 2177026350, 2456956037, 2730485921, 2820302411, 3259730800, 3345764771, 3516065817, 3600352804, 4094571909, 275423344, 430227734, 506948616, 659060556, 883997877, 958139571, 1322822218, 1537002063, 1747873779, 1955562222, 2024104815, 2227730452, 2361852424, 2428436474, 2756734187, 3204031479, 3329325298]
theorem kz_at : ∀ i : Fin 64, KZ[i.val]'i.isLt = ((KL[i.val]'(by rw [KL_length]; exact i.isLt)).toNat : Int) := by decide +kernel
theorem kat_of {W : World} (h : laidMetH Tryz.prog laidList W) : KAt W := by
  have h0 : laidMet Tryz.prog laidList W := h
  have h1 := laidMet.tail (laidMet.tail (laidMet.tail h0))
  have h2 : Lib.TabIs Tryz.prog W "holdfast/hash.roundWords" .u32 KZ :=
    Lib.tabIs_of_head (rest := []) gTab gTabType Tryz.underlying163 Tryz.underlying127 cellsWord cellsTab h1
  intro i hi
  have h3 := h2.cell gTab i hi
  rw [h3]
  have h4 := kz_at ⟨i, hi⟩
  simp only at h4
  show some (Value.int .u32 (KZ.getD i 0)) = some (.int .u32 _)
  rw [← h4, List.getD_eq_getElem?_getD, List.getElem?_eq_getElem (show i < KZ.length from hi)]
  rfl
theorem tab8_of {W : World} (h : laidMetH Tryz.prog laidList W) : TabAt W := by
  have h0 : laidMet Tryz.prog laidList W := h
  have h1 := laidMet.tail h0
  have h2 : Lib.TabIs Tryz.prog W "math/bits.deBruijn64tab" .u8 [0, 1, 56, 2, 57, 49, 28, 3, 61, 58, 42, 50, 38, 29, 17, 4, 62, 47, 59, 36, 45, 43, 51, 22, 53, 39, 33, 30, 24, 18, 12, 5, 63, 55, 48, 27, 60, 41, 37, 16, 46, 35, 44, 21, 52, 32, 23, 11, 54, 26, 40, 15, 34, 20, 31, 10, 25, 14, 19, 9, 13, 8, 7, 6] :=
    Lib.tabIs_of_head (rest := [("internal/strconv.uint64pow10", Rows.laid_internal_strconv_uint64pow10), ("holdfast/hash.roundWords", Rows.laid_holdfast_hash_roundWords)]) gTab8 gTabType8 Tryz.underlying130 Tryz.underlying5 cellsByte cellsTab8 h1
  exact h2.cell gTab8 15 (by decide)
theorem tab_of {W : World} (h : laidMetH Tryz.prog laidList W) : TabsJ W := ⟨tab8_of h, kat_of h⟩
def laidAs (c : Array Value) : Obj → Obj
  | .cells _ t frozen => .cells c t frozen
  | o => o
def laidWorld (w : World) : World :=
  { w with heap := (((w.heap.modify 2 (laidAs #[.int .u64 1, .int .u64 10, .int .u64 100, .int .u64 1000, .int .u64 10000, .int .u64 100000, .int .u64 1000000, .int .u64 10000000, .int .u64 100000000, .int .u64 1000000000, .int .u64 10000000000, .int .u64 100000000000, .int .u64 1000000000000, .int .u64 10000000000000, .int .u64 100000000000000, .int .u64 1000000000000000, .int .u64 10000000000000000, .int .u64 100000000000000000, .int .u64 1000000000000000000, .int .u64 10000000000000000000])).modify 3 (laidAs #[.int .u8 0, .int .u8 1, .int .u8 28, .int .u8 2, .int .u8 29, .int .u8 14, .int .u8 24, .int .u8 3, .int .u8 30, .int .u8 22, .int .u8 20, .int .u8 15, .int .u8 25, .int .u8 17, .int .u8 4, .int .u8 8, .int .u8 31, .int .u8 27, .int .u8 13, .int .u8 23, .int .u8 21, .int .u8 19, .int .u8 16, .int .u8 7, .int .u8 26, .int .u8 12, .int .u8 18, .int .u8 6, .int .u8 11, .int .u8 5, .int .u8 10, .int .u8 9])).modify 4 (laidAs #[.int .u8 0, .int .u8 1, .int .u8 56, .int .u8 2, .int .u8 57, .int .u8 49, .int .u8 28, .int .u8 3, .int .u8 61, .int .u8 58, .int .u8 42, .int .u8 50, .int .u8 38, .int .u8 29, .int .u8 17, .int .u8 4, .int .u8 62, .int .u8 47, .int .u8 59, .int .u8 36, .int .u8 45, .int .u8 43, .int .u8 51, .int .u8 22, .int .u8 53, .int .u8 39, .int .u8 33, .int .u8 30, .int .u8 24, .int .u8 18, .int .u8 12, .int .u8 5, .int .u8 63, .int .u8 55, .int .u8 48, .int .u8 27, .int .u8 60, .int .u8 41, .int .u8 37, .int .u8 16, .int .u8 46, .int .u8 35, .int .u8 44, .int .u8 21, .int .u8 52, .int .u8 32, .int .u8 23, .int .u8 11, .int .u8 54, .int .u8 26, .int .u8 40, .int .u8 15, .int .u8 34, .int .u8 20, .int .u8 31, .int .u8 10, .int .u8 25, .int .u8 14, .int .u8 19, .int .u8 9, .int .u8 13, .int .u8 8, .int .u8 7, .int .u8 6])).modify 1 (laidAs #[.int .u32 1116352408, .int .u32 1899447441, .int .u32 3049323471, .int .u32 3921009573, .int .u32 961987163, .int .u32 1508970993, .int .u32 2453635748, .int .u32 2870763221, .int .u32 3624381080, .int .u32 310598401, .int .u32 607225278, .int .u32 1426881987, .int .u32 1925078388, .int .u32 2162078206, .int .u32 2614888103, .int .u32 3248222580, .int .u32 3835390401, .int .u32 4022224774, .int .u32 264347078, .int .u32 604807628, .int .u32 770255983, .int .u32 1249150122, .int .u32 1555081692, .int .u32 1996064986, .int .u32 2554220882, .int .u32 2821834349, .int .u32 2952996808, .int .u32 3210313671, .int .u32 3336571891, .int .u32 3584528711, .int .u32 113926993, .int .u32 338241895, .int .u32 666307205, .int .u32 773529912, .int .u32 1294757372, .int .u32 1396182291, .int .u32 1695183700, .int .u32 1986661051, .int .u32 2177026350, .int .u32 2456956037, .int .u32 2730485921, .int .u32 2820302411, .int .u32 3259730800, .int .u32 3345764771, .int .u32 3516065817, .int .u32 3600352804, .int .u32 4094571909, .int .u32 275423344, .int .u32 430227734, .int .u32 506948616, .int .u32 659060556, .int .u32 883997877, .int .u32 958139571, .int .u32 1322822218, .int .u32 1537002063, .int .u32 1747873779, .int .u32 1955562222, .int .u32 2024104815, .int .u32 2227730452, .int .u32 2361852424, .int .u32 2428436474, .int .u32 2756734187, .int .u32 3204031479, .int .u32 3329325298]) }
theorem laid_met (os : Os) (args : Array Value) : laidMet Tryz.prog laidList ((laidWorld (World.holding Tryz.prog os ⟨#[], #[], []⟩)).forCall (fun _ _ => 0) ⟨#[], args, []⟩).memory :=
  laidMet_of_run' 8 (by kernel_rfl) (by kernel_rfl)
structure BytesIn (w : World) (a : Option Addr) (cap : Nat) (l : List UInt8) : Prop where
  bytes : Bytes w a l
  nilcap : a = none → cap = 0
  cap : l.length ≤ cap
  length : l.length ≤ 140737488351232
theorem bytesByte : Tryz.prog.bytesOf 5 = 1 := by kernel_rfl
theorem mapM_ints {H : Type} {enc : TypeId × Value → H} {P : Program} {e : TypeId} {q : IntKind} {W : World} {base : Nat} {sp : Nat → Bool} {held : Bool} (he : P.underlying e = some (.int q)) {m : Nat} {cs : List Value} {c : Nat} : ∀ (L : List Nat) (xs : List (DataW H × List MemPlace)),
    L.mapM (fun i => DataW.trod enc P W base sp held m e ((cs.drop (i * c)).take c)) = some xs → ∀ i ∈ L, ∃ a, (cs.drop (i * c)).take c = [.int q a] ∧ (Lit.int q a).wf = true
  | [], xs, h, i, hi => by cases hi
  | j :: L, xs, h, i, hi => by
    rw [List.mapM_cons] at h
    simp only [bind, Option.bind_eq_some_iff, pure, Option.some.injEq] at h
    obtain ⟨y, hy, ys, hys, rfl⟩ := h
    rcases List.mem_cons.1 hi with rfl | hi
    · obtain ⟨a, ea, _, wa⟩ := DataW.trod_int he hy
      exact ⟨a, ea, wa⟩
    · exact mapM_ints he L ys hys i hi
theorem open_hash {H : Type} {enc : TypeId × Value → H} {W : World} {v : Value} {d : DataW H} {p : List MemPlace} {base0 : Nat} (hv : Value.okWide Tryz.prog W .any base0 23 v)
    (h : DataW.Trod enc Tryz.prog W 0 (fun _ => true) true 23 v d p) : ∃ O l, v = .agg O ∧ HV O l := by
  simp only [Value.okWide, Tryz.underlying23] at hv
  obtain ⟨xs, rfl, hs, _⟩ := hv
  have hs32 : xs.size = 32 := hs.trans (by kernel_rfl)
  obtain ⟨fuel, hf⟩ := h
  cases fuel with
  | zero => simp [DataW.trod] at hf
  | succ m =>
    rw [DataW.trod_step] at hf
    unfold DataW.trodStep at hf
    simp only [Tryz.underlying23, Value.cells] at hf
    split at hf
    · simp only [Option.map_eq_some_iff] at hf
      obtain ⟨ys, hy, _⟩ := hf
      have hall := mapM_ints Tryz.underlying5 _ ys hy
      rw [cellsByte] at hall
      refine ⟨xs, xs.toList.map (fun v => match v with | .int _ z => UInt8.ofNat z.toNat | _ => 0), rfl, ?_, by simp [hs32]⟩
      apply Array.ext
      · simp [bvs, cellsOf]
      · intro i h1 h2
        obtain ⟨a, ea, wa⟩ := hall i (by simp; omega)
        have ex : xs[i] = .int .u8 a := by
          have h3 : (xs.toList.drop (i * 1)).take 1 = [xs[i]] := by
            rw [Nat.mul_one, List.drop_eq_getElem_cons (by simpa using h1)]
            simp
          rw [h3] at ea
          simpa using ea
        have hr : 0 ≤ a ∧ a ≤ 255 := by simpa [Lit.wf, IntKind.min, IntKind.max, IntKind.signed, IntKind.bits] using wa
        simp only [bvs, cellsOf, List.getElem_toArray, List.getElem_map, Array.getElem_toList, ex]
        congr 1
        rw [UInt8.toNat_ofNat']
        omega
    · cases hf
end Go.Proofs.YtdglmoikgmlaaaaGreatDoor
/- How long a text is that came in. -/
namespace Go.Proofs.YtdglmoikgmlaaaaGreatDoor
open Go.ChangeShapes Go.WideShapes Go.ChangeAt Go.RowKit
end Go.Proofs.YtdglmoikgmlaaaaGreatDoor
/- What an argument that is a row of deeds, or one deed, gives to a walk. -/
namespace Go.Proofs.YtdglmoikgmlaaaaGreatDoor
open Go.RowKit
open Go.ChangeShapes Go.WideShapes Go.ChangeAt Go.Deep
set_option linter.unusedVariables false
set_option maxRecDepth 20000
structure KD where
  kd : Int
  ten : ByteArray
  pur : ByteArray
  a : Option Addr
  bs : List UInt8
  c : Nat
  n : Int
  last : Bool
def KD.vals (q : KD) : List Value := [.int .i64 q.kd, .string q.ten, .string q.pur, .slice q.a q.bs.length q.c, .int .i64 q.n, .bool q.last]
structure KDOk (w : World) (q : KD) : Prop where
  bytes : BytesIn w q.a q.c q.bs
  ten : q.ten.size ≤ maxLen
  pur : q.pur.size ≤ maxLen
theorem BytesIn.below {w w' : World} {a : Option Addr} {c : Nat} {l : List UInt8} (h : BytesIn w a c l) (hb : Below w.heap.size w w') : BytesIn w' a c l := ⟨h.bytes.below hb, h.nilcap, h.cap, h.length⟩
theorem KDOk.below {w w' : World} {q : KD} (h : KDOk w q) (hb : Below w.heap.size w w') : KDOk w' q := ⟨h.bytes.below hb, h.ten, h.pur⟩
structure KDs (w : World) (a : Option Addr) (l : List KD) : Prop where
  cells : ∀ i (h : i < l.length), ∃ b o, a = some ⟨b, o, none⟩ ∧ b < w.heap.size ∧ w.rangeAt b (o + i * 6) l[i].vals
  oks : ∀ q ∈ l, KDOk w q
  len : l.length ≤ 9223372036854775807
theorem KDs.below {w w' : World} {a : Option Addr} {l : List KD} (h : KDs w a l) (hb : Below w.heap.size w w') : KDs w' a l := by
  refine ⟨fun i hi => ?_, fun q hq => (h.oks q hq).below hb, h.len⟩
  obtain ⟨b, o, e, hlt, hr⟩ := h.cells i hi
  exact ⟨b, o, e, Nat.lt_of_lt_of_le hlt hb.size, fun j u hj => (hb.cell (p := ⟨b, o + i * 6 + j, none⟩) hlt).trans (hr j u hj)⟩
theorem addr_addA (b o j : Nat) : (⟨b, o, none⟩ : Addr).add j = ⟨b, o + j, none⟩ := by unfold Addr.add; split <;> simp_all
theorem list6J {α : Type} {l : List α} (h : l.length = 6) : ∃ a b c d e f, l = [a, b, c, d, e, f] := by
  match l, h with
  | [a, b, c, d, e, f], _ => exact ⟨a, b, c, d, e, f, rfl⟩
theorem choose_ltA {β : Type} [Inhabited β] {n : Nat} {P : Nat → β → Prop} (h : ∀ i, i < n → ∃ b, P i b) : ∃ f : Nat → β, ∀ i, i < n → P i (f i) := by
  classical
  refine ⟨fun i => if hi : i < n then Classical.choose (h i hi) else default, fun i hi => ?_⟩
  simp only [hi, dif_pos]
  exact Classical.choose_spec (h i hi)
theorem cellsKD : Tryz.prog.cellsOf 61 = 6 := by kernel_rfl
theorem weightsAll_mem {H : Type} {P : Program} {e : TypeId} {l : List (DataW H)} {d : DataW H} (h : d ∈ l) : ∀ m ∈ d.weights P e, m ∈ DataW.weightsAll P e l := by
  induction l with
  | nil => cases h
  | cons a l ih =>
    intro m hm
    simp only [DataW.weightsAll, List.mem_append]
    rcases List.mem_cons.1 h with rfl | h
    · exact .inl hm
    · exact .inr (ih h m hm)
theorem open_bytesW {H : Type} {enc : TypeId × Value → H} {W : World} {v : Value} {fuel : Nat} {x : DataW H × List MemPlace}
    (hf : DataW.trod enc Tryz.prog W 0 (fun _ => true) true fuel 41 [v] = some x) (hw : ∀ m ∈ x.1.weights Tryz.prog 41, m ≤ reachBytes) : ∃ (a : Option Addr) (l : List UInt8) (c : Nat), v = .slice a l.length c ∧ BytesIn W a c l := by
  rcases open_ints Tryz.underlying41 Tryz.underlying5 cellsByte hf with ⟨hcs, _⟩ | ⟨x, len, c', zs, hcs, _, hl, hm, hz, hx, hcell, hwz⟩
  · simp only [List.cons.injEq, and_true] at hcs
    exact ⟨none, [], 0, hcs, fun i hi => by simp at hi, fun _ => rfl, by simp, by simp⟩
  · simp only [List.cons.injEq, and_true] at hcs
    subst hx
    simp only [if_true] at hz
    have hlen : ((zs.take len).map fun z => UInt8.ofNat z.toNat).length = len := by rw [List.length_map, List.length_take]; omega
    refine ⟨some x, (zs.take len).map fun z => UInt8.ofNat z.toNat, c', by rw [hlen]; exact hcs, fun i hi => ?_, (fun h => by cases h), by rw [hlen]; exact hl, ?_⟩
    · obtain ⟨b, o, spot⟩ := x
      have hc := hcell i (by omega)
      have hspot : spot = none := by simpa [Addr.add] using World.cell?_spot (hcell 0 (by omega))
      subst hspot
      refine ⟨b, o, rfl, ?_⟩
      rw [addr_add] at hc
      rw [hc]
      have hi' : i < zs.length := by omega
      have hw := hwz zs[i] (List.getElem_mem _)
      have hr : 0 ≤ zs[i] ∧ zs[i] ≤ 255 := by simpa [Lit.wf, IntKind.min, IntKind.max, IntKind.signed, IntKind.bits] using hw
      simp only [List.getD, List.getElem?_eq_getElem hi', Option.getD_some, List.getElem_map, List.getElem_take]
      congr 2
      rw [UInt8.toNat_ofNat']
      omega
    · have h9 := hw ((zs.take len).length * 1 + (zs.drop len).length * 1) (by
        simp only [DataW.weights, Tryz.underlying41]
        rw [bytesByte]
        refine List.mem_cons.2 (.inl ?_)
        simp only [lits, List.length_map]
        omega)
      rw [List.length_take, List.length_drop] at h9
      simp only [reachBytes] at h9
      rw [hlen]
      omega
theorem open_kd1 {H : Type} {enc : TypeId × Value → H} {W : World} {fuel : Nat} {cs : List Value} {d : DataW H × List MemPlace} (hlen : cs.length = 6)
    (h2 : DataW.trod enc Tryz.prog W 0 (fun _ => true) true fuel 61 cs = some d) (hwi : ∀ m ∈ d.1.weights Tryz.prog 61, m ≤ reachBytes) : ∃ q : KD, cs = q.vals ∧ KDOk W q := by
  obtain ⟨xs, k, hk, hxy, _, hxl, hf⟩ := DataW.trod_struct Tryz.underlying61 h2
  obtain ⟨v0, v1, v2, v3, v4, v5, rfl⟩ := list6J hlen
  have g0 := hf 0 _ rfl
  have g1 := hf 1 _ rfl
  have g2 := hf 2 _ rfl
  have g3 := hf 3 _ rfl
  have g4 := hf 4 _ rfl
  have g5 := hf 5 _ rfl
  have s0 : Tryz.prog.cellsOf 3 = 1 := by kernel_rfl
  have s1 : Tryz.prog.cellsOf 9 = 1 := by kernel_rfl
  have s2 : Tryz.prog.cellsOf 41 = 1 := by kernel_rfl
  have s3 : Tryz.prog.cellsOf 4 = 1 := by kernel_rfl
  simp [s0, s1, s2, s3] at g0 g1 g2 g3 g4 g5
  obtain ⟨y0, q0⟩ : ∃ y, DataW.trod enc Tryz.prog W 0 (fun _ => true) true k 3 [v0] = some y := ⟨_, g0.trans (List.getElem?_eq_getElem (by rw [hxl]; decide))⟩
  obtain ⟨y1, q1⟩ : ∃ y, DataW.trod enc Tryz.prog W 0 (fun _ => true) true k 9 [v1] = some y := ⟨_, g1.trans (List.getElem?_eq_getElem (by rw [hxl]; decide))⟩
  obtain ⟨y2, q2⟩ : ∃ y, DataW.trod enc Tryz.prog W 0 (fun _ => true) true k 9 [v2] = some y := ⟨_, g2.trans (List.getElem?_eq_getElem (by rw [hxl]; decide))⟩
  obtain ⟨y3, q3, w3⟩ : ∃ y, DataW.trod enc Tryz.prog W 0 (fun _ => true) true k 41 [v3] = some y ∧ ∀ m ∈ y.1.weights Tryz.prog 41, m ≤ reachBytes := ⟨_, g3.trans (List.getElem?_eq_getElem (by rw [hxl]; decide)), fun m hm => hwi m (by
    rw [hxy]
    simp only [DataW.weights, Tryz.underlying61]
    exact DataW.weights_mem_each (j := 3) (t := 41) rfl (by rw [List.getElem?_map, List.getElem?_eq_getElem (by rw [hxl]; decide)]; rfl) m hm)⟩
  obtain ⟨y4, q4⟩ : ∃ y, DataW.trod enc Tryz.prog W 0 (fun _ => true) true k 3 [v4] = some y := ⟨_, g4.trans (List.getElem?_eq_getElem (by rw [hxl]; decide))⟩
  obtain ⟨y5, q5⟩ : ∃ y, DataW.trod enc Tryz.prog W 0 (fun _ => true) true k 4 [v5] = some y := ⟨_, g5.trans (List.getElem?_eq_getElem (by rw [hxl]; decide))⟩
  obtain ⟨n0, e0, _, _⟩ := DataW.trod_int Tryz.underlying3 q0
  obtain ⟨n1, e1, _, k1⟩ := DataW.trod_string Tryz.underlying9 q1
  obtain ⟨n2, e2, _, k2⟩ := DataW.trod_string Tryz.underlying9 q2
  obtain ⟨a3, l3, c3, e3, b3⟩ := open_bytesW q3 w3
  obtain ⟨n4, e4, _, _⟩ := DataW.trod_int Tryz.underlying3 q4
  obtain ⟨n5, e5, _⟩ := DataW.trod_bool Tryz.underlying4 q5
  simp only [List.cons.injEq, and_true] at e0 e1 e2 e4 e5
  subst e0 e1 e2 e3 e4 e5
  exact ⟨⟨n0, n1, n2, a3, l3, c3, n4, n5⟩, rfl, b3, k1, k2⟩
theorem open_kdeeds {H : Type} {enc : TypeId × Value → H} {W : World} {a : Option Addr} {len cap : Nat} {d : DataW H} {p : List MemPlace}
    (h : DataW.Trod enc Tryz.prog W 0 (fun _ => true) true 24 (.slice a len cap) d p) (hw : ∀ m ∈ d.weights Tryz.prog 24, m ≤ reachBytes) : ∃ l : List KD, l.length = len ∧ KDs W a l := by
  obtain ⟨fuel, hf⟩ := h
  rcases open_slice Tryz.underlying24 hf with ⟨hcs, _⟩ | ⟨x, l', c', m, n, D, Pl, hcs, hb, hl, hm, hmm, hdx, hx⟩
  · simp [Value.cells] at hcs
    obtain ⟨rfl, rfl, rfl⟩ := hcs
    exact ⟨[], rfl, fun i hi => by simp at hi, fun x hx => by simp at hx, by simp⟩
  · simp [Value.cells] at hcs
    obtain ⟨rfl, rfl, rfl⟩ := hcs
    simp only [if_true] at hmm
    rw [cellsKD] at hx
    simp only [Prod.mk.injEq] at hdx
    obtain ⟨rfl, _⟩ := hdx
    have hwD : ∀ i, i < len → ∀ m ∈ (D i).weights Tryz.prog 61, m ≤ reachBytes := fun i hi m hm => hw m (by
      simp only [DataW.weights, Tryz.underlying24]
      exact List.mem_cons_of_mem _ (List.mem_append_left _ (weightsAll_mem (List.mem_map.2 ⟨i, List.mem_range.2 hi, rfl⟩) m hm)))
    have each : ∀ i, i < len → ∃ q : KD, (∃ b o, x = ⟨b, o, none⟩ ∧ b < W.heap.size ∧ W.rangeAt b (o + i * 6) q.vals) ∧ KDOk W q := by
      intro i hi
      obtain ⟨cs', h1, h2⟩ := hx i (by omega)
      obtain ⟨_, hlen, hcell⟩ := World.cells?_some h1
      obtain ⟨q, rfl, hq⟩ := open_kd1 hlen h2 (hwD i hi)
      obtain ⟨bb, o, spot⟩ := x
      have hspot : spot = none := by
        obtain ⟨cs0, z1, _⟩ := hx 0 (by omega)
        obtain ⟨_, zl, zc⟩ := World.cells?_some z1
        have := (zc 0 (by omega)).trans (List.getElem?_eq_getElem (by omega))
        simpa [Addr.add] using World.cell?_spot this
      subst hspot
      refine ⟨q, ⟨bb, o, rfl, ?_, fun j u hj => ?_⟩, hq⟩
      · have c0 := hcell 0 (by omega)
        rw [Deep.add_add, addr_addA] at c0
        exact World.block_lt_of_cell? _ _ (c0.trans rfl)
      · have hj6 : j < 6 := (List.getElem?_eq_some_iff.1 hj).1
        have c0 := hcell j hj6
        rw [Deep.add_add, addr_addA] at c0
        rw [Nat.add_assoc, c0]
        exact hj
    have hinh : Inhabited KD := ⟨⟨0, ⟨#[]⟩, ⟨#[]⟩, none, [], 0, 0, false⟩⟩
    obtain ⟨q, hq⟩ := choose_ltA each
    refine ⟨(List.range len).map q, by simp, fun i hi => ?_, fun y hy => ?_, by have h9 : maxLen = 9223372036854775807 := (by decide); rw [List.length_map, List.length_range]; omega⟩
    · have hi' : i < len := by simpa using hi
      obtain ⟨⟨b, o, e, hlt, hr⟩, _⟩ := hq i hi'
      exact ⟨b, o, by rw [e], hlt, by simpa using hr⟩
    · obtain ⟨i, hi, rfl⟩ := List.mem_map.1 hy
      exact (hq i (List.mem_range.1 hi)).2
theorem weights_at {H : Type} {ts : List TypeId} {ds : List (DataW H)} {j : Nat} {t : TypeId} {d : DataW H}
    (hsz : (DataW.weightsEach Tryz.prog ts ds).all (· ≤ reachBytes) = true) (ht : ts[j]? = some t) (hd : ds[j]? = some d) : ∀ m ∈ d.weights Tryz.prog t, m ≤ reachBytes := fun m hm =>
  of_decide_eq_true (List.all_eq_true.1 hsz _ (DataW.weights_mem_each ht hd m hm))
end Go.Proofs.YtdglmoikgmlaaaaGreatDoor
/- Both trees of keys beside one another, and a deed beside them. -/
namespace Go.Proofs.YtdglmoikgmlaaaaGreatDoor
open Go.RowKit Go.Maps
set_option linter.unusedVariables false
set_option maxRecDepth 20000
structure KP (w0 w : World) (B g mv mg gr : Nat) (root : List UInt8) (st sr : TS) (d : Nat) : Prop where
  t : TreeM w B g mv mg root st d
  r : RT w B gr root sr
  ok : sr.Ok
  b : Below B w0 w
  hB : B ≤ w0.heap.size
section
variable {w0 w w' : World} {B g mv mg gr : Nat} {root : List UInt8} {st st' sr sr' : TS} {d d' : Nat}
theorem KP.low (h : KP w0 w B g mv mg gr root st sr d) : B ≤ w.heap.size := Nat.le_trans h.hB h.b.size
theorem KP.below (h : KP w0 w B g mv mg gr root st sr d) (hb : Below w.heap.size w w') : KP w0 w' B g mv mg gr root st sr d := ⟨h.t.below hb, h.r.below hb, h.ok, h.b.trans (hb.mono h.low), h.hB⟩
theorem KP.prog (h : KP w0 w B g mv mg gr root st sr d) (t : TreeM w' B g mv mg root st' d') (o : OutJ (Mine g mv mg) w w') : KP w0 w' B g mv mg gr root st' sr d' := ⟨t, h.r.prog h.t o, h.ok, h.b.trans (h.t.below_of o h.low), h.hB⟩
theorem KP.ref (h : KP w0 w B g mv mg gr root st sr d) (r : RT w' B gr root sr') (ok : sr'.Ok) (o : OutJ (RM w B gr) w w') : KP w0 w' B g mv mg gr root st sr' d := ⟨h.t.ref h.r o, r, ok, h.b.trans (RM.below o h.low), h.hB⟩
theorem TreeM.up (h : TreeM w B g mv mg root st d) (hd : d ≤ d') : TreeM w B g mv mg root st d' := by
  obtain ⟨ok, hne, nv, ng, V, G, h1, hV, hG, l1, l2⟩ := h
  exact ⟨ok, hne, nv, ng, V, G, h1, hV, hG, by omega, by omega⟩
theorem KP.up (h : KP w0 w B g mv mg gr root st sr d) (hd : d ≤ d') : KP w0 w B g mv mg gr root st sr d' := ⟨h.t.up hd, h.r, h.ok, h.b, h.hB⟩
def XAt (w : World) (x : Nat) (q : KD) : Prop := w.heap[x]? = some (.cells q.vals.toArray 61 (0, 0))
variable {x : Nat} {q : KD}
theorem XAt.below (h : XAt w x q) (hb : Below w.heap.size w w') : XAt w' x q := (hb.block x (heap_lt h)).trans h
theorem XAt.prog (h : XAt w x q) (k : KP w0 w B g mv mg gr root st sr d) (o : OutJ (Mine g mv mg) w w') : XAt w' x q := (o.block x (heap_lt h) (mine_typed k.t h (by decide))).trans h
theorem XAt.ref (h : XAt w x q) (k : KP w0 w B g mv mg gr root st sr d) (o : OutJ (RM w B gr) w w') : XAt w' x q := by
  obtain ⟨gv, lv, r⟩ := k.r
  refine (o.block x (heap_lt h) ?_).trans h
  have ty : ∀ {a a' : Array Value} {b b' : TypeId} {c c' : Nat × Nat}, some (Obj.cells a b c) = some (Obj.cells a' b' c') → b = b' := fun e => by injection e with e; injection e
  rintro ⟨_, rfl | ⟨c2, f2, h2⟩⟩
  · exact absurd (ty (h.symm.trans r.obj)) (by decide)
  · exact absurd (ty (h.symm.trans h2)) (by decide)
theorem XAt.c (h : XAt w x q) : w.cell? ⟨x, 0, none⟩ = some (.int .i64 q.kd) ∧ w.cell? ⟨x, 1, none⟩ = some (.string q.ten) ∧ w.cell? ⟨x, 2, none⟩ = some (.string q.pur) ∧ w.cell? ⟨x, 3, none⟩ = some (.slice q.a q.bs.length q.c) ∧ w.cell? ⟨x, 4, none⟩ = some (.int .i64 q.n) ∧ w.cell? ⟨x, 5, none⟩ = some (.bool q.last) :=
  ⟨(cell_of_row _ _ _ _ _ _ h).trans rfl, (cell_of_row _ _ _ _ _ _ h).trans rfl, (cell_of_row _ _ _ _ _ _ h).trans rfl, (cell_of_row _ _ _ _ _ _ h).trans rfl, (cell_of_row _ _ _ _ _ _ h).trans rfl, (cell_of_row _ _ _ _ _ _ h).trans rfl⟩
theorem KP.bprog {B2 n : Nat} {v : Value} {xs : List Value} (k : KP w0 w B g mv mg gr root st sr d) (o : w.ownsRow B2 5 1 v n xs) (ho : OutJ (Mine g mv mg) w w') : w'.ownsRow B2 5 1 v n xs := bytes_prog o k.t ho
theorem KP.bref {B2 n : Nat} {v : Value} {xs : List Value} (k : KP w0 w B g mv mg gr root st sr d) (o : w.ownsRow B2 5 1 v n xs) (ho : OutJ (RM w B gr) w w') : w'.ownsRow B2 5 1 v n xs := bytes_ref o k.r ho
end
theorem TS.Ok.rotR {s : TS} (ok : s.Ok) (t u : ByteArray) : (s.rotR t u).1.Ok := by
  unfold TS.rotR
  by_cases he : (s.cur t u).2 ≠ 0
  · rw [if_pos he]; exact ok
  · rw [if_neg he]
    by_cases hf : (s.cur t u).1 = 16 ∨ ((s.cur t u).1 = 1 ∧ s.vs.length = 16)
    · rw [if_pos hf]; exact ok
    · rw [if_neg hf]
      obtain ⟨n1, n2, hg, hc⟩ := cur_ok (show (s.cur t u).2 = 0 by omega)
      obtain ⟨v1, v2⟩ := verOf_ok ok t u
      rw [hc] at hf ⊢
      have hfew := ok.few
      refine ok.rot t u n1 n2 (fun hm => by rw [isIn_iff.2 hm] at hg; cases hg) _ (by omega) (by omega) ?_
      rw [rotV_length ok.nodup]
      cases ha : s.vs.any (isAt t u) with
      | true => simp; exact hfew
      | false => have := verOf_none ha; simp; omega
theorem TS.Ok.desR {s : TS} (ok : s.Ok) (t : ByteArray) : (s.desR t).1.Ok := by
  unfold TS.desR
  by_cases hn : okN t = true
  · rw [if_pos hn]
    by_cases hg : isIn s.gs t = true
    · rw [if_pos hg]; exact ok
    · rw [if_neg hg]
      by_cases hf : s.gs.length = 16
      · rw [if_pos hf]; exact ok
      · rw [if_neg hf]
        exact ok.des t hn (by simpa using hg) (by have := ok.gfew; omega)
  · rw [if_neg hn]; exact ok
theorem TS.Ok.setN {s : TS} (ok : s.Ok) (n : Nat) : ({ s with n := n } : TS).Ok := ⟨ok.names, ok.nodup, ok.gnames, ok.gnodup, ok.few, ok.gfew⟩
theorem TS.Ok.sealR {s : TS} (ok : s.Ok) (root : List UInt8) (t u : ByteArray) (p : List UInt8) : (s.sealR root t u p).1.Ok ∧ ((s.sealR root t u p).1.n ≤ s.n + 1 ∧ (s.n ≤ 1099511627776 → (s.sealR root t u p).1.n ≤ 1099511627776)) ∧ (s.sealR root t u p).2.1.length ≤ 1049 := by
  unfold TS.sealR
  by_cases he : (s.cur t u).2 ≠ 0
  · rw [if_pos he]; exact ⟨ok, by simp, by simp⟩
  · rw [if_neg he]
    by_cases hl : 1024 < p.length
    · rw [if_pos hl]; exact ⟨ok, by simp, by simp⟩
    · rw [if_neg hl]
      by_cases hf : s.n = 1099511627776
      · rw [if_pos hf]; exact ⟨ok, by simp, by simp⟩
      · rw [if_neg hf]; exact ⟨ok.setN _, ⟨Nat.le_refl _, fun h => by simp only; omega⟩, by simp only [List.length_cons, sealB_len]; omega⟩
theorem TS.Ok.resealR {s : TS} (ok : s.Ok) (root : List UInt8) (t u : ByteArray) (S : List UInt8) : (s.resealR root t u S).1.Ok ∧ ((s.resealR root t u S).1.n ≤ s.n + 1 ∧ (s.n ≤ 1099511627776 → (s.resealR root t u S).1.n ≤ 1099511627776)) ∧ ((s.resealR root t u S).2.1.length ≤ 1049 ∨ (s.resealR root t u S).2.1.length ≤ S.length) := by
  rw [resealR_eq]
  split
  · exact ⟨ok, by simp, by simp⟩
  · split
    · exact ⟨ok, by simp, .inr (Nat.le_refl _)⟩
    · obtain ⟨h1, h2, h3⟩ := ok.sealR root t u (s.openR root t u S).1
      exact ⟨h1, h2, .inl h3⟩
theorem rotR_n {s : TS} (t u : ByteArray) : (s.rotR t u).1.n = s.n := by
  unfold TS.rotR
  split
  · rfl
  · split <;> rfl
theorem desR_n {s : TS} (t : ByteArray) : (s.desR t).1.n = s.n := by
  unfold TS.desR
  split
  · split
    · rfl
    · split <;> rfl
  · rfl
theorem openS_le (key S : List UInt8) : (openS key S).1.length ≤ S.length := by
  unfold openS
  split
  · simp
  · split
    · simp
    · split
      · simp only [cross_len, List.length_drop, List.length_take]; omega
      · simp
theorem openR_le (s : TS) (root : List UInt8) (t u : ByteArray) (S : List UInt8) : (s.openR root t u S).1.length ≤ S.length := by
  cases S with
  | nil => simp [openR_nil]
  | cons b S =>
    change (s.openB root t u b S).1.length ≤ _
    unfold TS.openB
    split
    · simp
    · split
      · simp
      · have := openS_le (s.keyR root t u (b.toNat : Int)).1 S
        simp only [List.length_cons]; omega
end Go.Proofs.YtdglmoikgmlaaaaGreatDoor
/- Each deed on both trees, by contracts over one state. -/
namespace Go.Proofs.YtdglmoikgmlaaaaGreatDoor
open Go.RowKit Go.Maps
set_option linter.unusedVariables false
set_option maxRecDepth 20000
theorem same_self (x : List UInt8) (a b : Option Addr) (ca cb : Nat) (w : World) (hx : Bytes w a x) (hy : Bytes w b x) (lx : x.length ≤ 140737488351232) :
    Calls Tryz.prog 19 #[.slice a x.length ca, .slice b x.length cb] w fun e w' => e = .returned (.bool true) ∧ Below w.heap.size w w' := by
  have h := sameBytes_any x x a b ca cb w hx hy lx lx
  rw [decide_eq_true rfl] at h
  exact h
structure St (w0 w : World) (B g mv mg gr : Nat) (root : List UInt8) (st sr : TS) (d x : Nat) (q : KD) (vl : Value) (L : List UInt8) (vb : Value) (bl : List UInt8) : Prop where
  k : KP w0 w B g mv mg gr root st sr d
  x : XAt w x q
  l : w.ownsRow B 5 1 vl L.length (cellsOf L)
  b : w.ownsRow B 5 1 vb bl.length (cellsOf bl)
section
variable {w0 w w' : World} {B g mv mg gr : Nat} {root : List UInt8} {s st st' sr sr' : TS} {d d' x : Nat} {q : KD} {vl : Value} {L : List UInt8} {vb : Value} {bl : List UInt8}
theorem St.below (h : St w0 w B g mv mg gr root st sr d x q vl L vb bl) (hb : Below w.heap.size w w') : St w0 w' B g mv mg gr root st sr d x q vl L vb bl := ⟨h.k.below hb, h.x.below hb, own_on h.l hb, own_on h.b hb⟩
theorem St.prog (h : St w0 w B g mv mg gr root st sr d x q vl L vb bl) (t : TreeM w' B g mv mg root st' d') (o : OutJ (Mine g mv mg) w w') : St w0 w' B g mv mg gr root st' sr d' x q vl L vb bl := ⟨h.k.prog t o, h.x.prog h.k o, h.k.bprog h.l o, h.k.bprog h.b o⟩
theorem St.ref (h : St w0 w B g mv mg gr root st sr d x q vl L vb bl) (r : RT w' B gr root sr') (ok : sr'.Ok) (o : OutJ (RM w B gr) w w') : St w0 w' B g mv mg gr root st sr' d x q vl L vb bl := ⟨h.k.ref r ok o, h.x.ref h.k o, h.k.bref h.l o, h.k.bref h.b o⟩
theorem St.drew (h : St w0 w B g mv mg gr root st sr d x q vl L vb bl) : St w0 w.drew B g mv mg gr root st sr d x q vl L vb bl := h.below (below_drewN _ _ 1)
theorem St.bytes (h : St w0 w B g mv mg gr root st sr d x q vl L vb bl) : ∃ a cap, vb = .slice a bl.length cap ∧ Bytes w a bl ∧ bl.length ≤ cap ∧ (a = none → cap = 0) ∧ (bl ≠ [] → ∃ gs, a = some ⟨gs, 0, none⟩) := by
  obtain ⟨a, cap, rfl, h1, h2, h3⟩ := bytes_of_own0 h.b
  refine ⟨a, cap, rfl, h1, h2, h3, fun h4 => ?_⟩
  rcases h.b.2 with ⟨e, h5⟩ | ⟨g, c, cur, e, _⟩
  · exact absurd (List.eq_nil_of_length_eq_zero h5) h4
  · injection e with e1; exact ⟨g, e1⟩
theorem st_rot (h : St w0 w B g mv mg gr root s s d x q vl L vb bl) (hd : d ≤ 900) (t u : ByteArray) (ht : t.size ≤ maxLen) (hu : u.size ≤ maxLen) : ∃ (sr' : TS) (nr er : Int), sr'.n = s.n ∧
    Calls Tryz.prog 16 #[.pointer (some ⟨g, 0, none⟩), .string t, .string u] w (fun e w' => e = .returned (.tuple #[.int .i64 nr, .int .i64 er]) ∧ St w0 w' B g mv mg gr root sr' s (d + 1) x q vl L vb bl) ∧
    ∀ W, St w0 W B g mv mg gr root sr' s (d + 1) x q vl L vb bl → Calls Tryz.prog 21 #[.pointer (some ⟨gr, 0, none⟩), .string t, .string u] W (fun e w' => e = .returned (.tuple #[.int .i64 nr, .int .i64 er]) ∧ St w0 w' B g mv mg gr root sr' sr' (d + 1) x q vl L vb bl) :=
  ⟨_, _, _, rotR_n t u, (rotate_m h.k.t hd t u ht hu).mono fun e w' ⟨h1, h2, h3⟩ => ⟨h1, h.prog h2 h3⟩, fun W hW => (rRotate_any hW.k.r hW.k.ok hW.k.low t u ht hu).mono fun e w' ⟨h1, h2, h3⟩ => ⟨h1, hW.ref h2 (hW.k.ok.rotR t u) h3⟩⟩
theorem st_des (h : St w0 w B g mv mg gr root s s d x q vl L vb bl) (hd : d ≤ 900) (t : ByteArray) (ht : t.size ≤ maxLen) : ∃ (sr' : TS) (er : Int), sr'.n = s.n ∧
    Calls Tryz.prog 22 #[.pointer (some ⟨g, 0, none⟩), .string t] w (fun e w' => e = .returned (.int .i64 er) ∧ St w0 w' B g mv mg gr root sr' s (d + 1) x q vl L vb bl) ∧
    ∀ W, St w0 W B g mv mg gr root sr' s (d + 1) x q vl L vb bl → Calls Tryz.prog 23 #[.pointer (some ⟨gr, 0, none⟩), .string t] W (fun e w' => e = .returned (.int .i64 er) ∧ St w0 w' B g mv mg gr root sr' sr' (d + 1) x q vl L vb bl) :=
  ⟨_, _, desR_n t, (destroy_m h.k.t hd t ht).mono fun e w' ⟨h1, h2, h3⟩ => ⟨h1, h.prog h2 h3⟩, fun W hW => (rDestroy_any hW.k.r hW.k.ok hW.k.low t ht).mono fun e w' ⟨h1, h2, h3⟩ => ⟨h1, hW.ref h2 (hW.k.ok.desR t) h3⟩⟩
theorem st_seal (h : St w0 w B g mv mg gr root s s d x q vl L vb bl) (hsn : s.n ≤ 1099511627776) (t u : ByteArray) (ht : t.size ≤ maxLen) (hu : u.size ≤ maxLen) (hT : TabsJ w) (a : Option Addr) (m cap : Nat) (hm : m = bl.length) (hv : vb = .slice a m cap) : ∃ (sr' : TS) (er : Int) (pl : List UInt8), (sr'.n ≤ s.n + 1 ∧ (s.n ≤ 1099511627776 → sr'.n ≤ 1099511627776)) ∧ pl.length ≤ 1049 ∧
    Calls Tryz.prog 15 #[.pointer (some ⟨g, 0, none⟩), .string t, .string u, .slice a m cap] w (fun e w' => ∃ v, e = .returned (.tuple #[v, .int .i64 er]) ∧ w'.ownsRow B 5 1 v pl.length (cellsOf pl) ∧ St w0 w' B g mv mg gr root sr' s d x q vl L vb bl) ∧
    ∀ W pv, St w0 W B g mv mg gr root sr' s d x q vl L vb bl → W.ownsRow B 5 1 pv pl.length (cellsOf pl) → Calls Tryz.prog 24 #[.pointer (some ⟨gr, 0, none⟩), .string t, .string u, .slice a m cap] W (fun e w' => ∃ v, e = .returned (.tuple #[v, .int .i64 er]) ∧ w'.ownsRow B 5 1 v pl.length (cellsOf pl) ∧ w'.ownsRow B 5 1 pv pl.length (cellsOf pl) ∧ St w0 w' B g mv mg gr root sr' sr' d x q vl L vb bl) := by
  have hbs : ∀ W, W.ownsRow B 5 1 vb bl.length (cellsOf bl) → Bytes W a bl := fun W ho => by
    obtain ⟨a', c', e, hB, _⟩ := bytes_of_own0 ho
    rw [hv] at e; injection e with e1; rw [e1]; exact hB
  obtain ⟨o1, o2, o3⟩ := h.k.ok.sealR root t u bl
  refine ⟨_, _, (s.sealR root t u bl).2.1, o2, o3, (seal_m h.k.t hsn t u ht hu bl a m cap hm (hbs _ h.b) hT.1 hT.2).mono fun e w' ⟨v, h1, h2, h3, h4⟩ => ⟨v, h1, own_mono h2 h.k.low, h.prog h3 h4⟩, fun W pv hW hp => (rSeal_any hW.k.r hW.k.ok hW.k.low hsn t u ht hu bl a m cap hm (hbs _ hW.b)).mono fun e w' ⟨v, h1, h2, h3, h4⟩ => ⟨v, h1, own_mono h2 hW.k.low, hW.k.bref hp h4, hW.ref h3 o1 h4⟩⟩
theorem st_open (h : St w0 w B g mv mg gr root s s d x q vl L vb bl) (t u : ByteArray) (ht : t.size ≤ maxLen) (hu : u.size ≤ maxLen) (hT : TabsJ w) (a : Option Addr) (m cap : Nat) (hm : m = bl.length) (hm9 : bl.length ≤ 140737488351232) (hv : vb = .slice a m cap) : ∃ (nr er : Int) (pl : List UInt8), pl.length ≤ bl.length ∧
    Calls Tryz.prog 17 #[.pointer (some ⟨g, 0, none⟩), .string t, .string u, .slice a m cap] w (fun e w' => ∃ v, e = .returned (.tuple #[v, .int .i64 nr, .int .i64 er]) ∧ w'.ownsRow B 5 1 v pl.length (cellsOf pl) ∧ St w0 w' B g mv mg gr root s s d x q vl L vb bl) ∧
    ∀ W pv, St w0 W B g mv mg gr root s s d x q vl L vb bl → W.ownsRow B 5 1 pv pl.length (cellsOf pl) → Calls Tryz.prog 25 #[.pointer (some ⟨gr, 0, none⟩), .string t, .string u, .slice a m cap] W (fun e w' => ∃ v, e = .returned (.tuple #[v, .int .i64 nr, .int .i64 er]) ∧ Lies w' v pl ∧ w'.ownsRow B 5 1 pv pl.length (cellsOf pl) ∧ St w0 w' B g mv mg gr root s s d x q vl L vb bl) := by
  have hbs : ∀ W, W.ownsRow B 5 1 vb bl.length (cellsOf bl) → Bytes W a bl ∧ m ≤ cap := fun W ho => by
    obtain ⟨a', c', e, hB, hc⟩ := bytes_of_own0 ho
    rw [hv] at e; injection e with e1 e2 e3; rw [e1, e3]; exact ⟨hB, by omega⟩
  obtain ⟨a', cap', e, _, _, _, ha⟩ := h.bytes
  rw [hv] at e
  injection e with e1
  rw [← e1] at ha
  refine ⟨_, _, (s.openR root t u bl).1, openR_le _ _ _ _ _, (open_l h.k.t t u ht hu bl a m cap hm (by omega) (hbs _ h.b).2 ha (hbs _ h.b).1 hT.1 hT.2).mono fun e w' ⟨v, h1, h2, h3⟩ => ⟨v, h1, own_mono h2 h.k.low, h.below h3⟩, fun W pv hW hp => (rOpen_any hW.k.r hW.k.ok t u ht hu bl a m cap hm (by omega) (hbs _ hW.b).2 ha (hbs _ hW.b).1).mono fun e w' ⟨v, h1, h2, h3⟩ => ⟨v, h1, h2, own_on hp h3, hW.below h3⟩⟩
theorem st_reseal (h : St w0 w B g mv mg gr root s s d x q vl L vb bl) (hsn : s.n ≤ 1099511627776) (t u : ByteArray) (ht : t.size ≤ maxLen) (hu : u.size ≤ maxLen) (hT : TabsJ w) (a : Option Addr) (m cap : Nat) (hm : m = bl.length) (hm9 : bl.length ≤ 140737488351232) (hv : vb = .slice a m cap) : ∃ (sr' : TS) (br : Bool) (er : Int) (pl : List UInt8), (sr'.n ≤ s.n + 1 ∧ (s.n ≤ 1099511627776 → sr'.n ≤ 1099511627776)) ∧ pl.length ≤ 140737488351232 ∧
    Calls Tryz.prog 18 #[.pointer (some ⟨g, 0, none⟩), .string t, .string u, .slice a m cap] w (fun e w' => ∃ v, e = .returned (.tuple #[v, .bool br, .int .i64 er]) ∧ w'.ownsRow B 5 1 v pl.length (cellsOf pl) ∧ St w0 w' B g mv mg gr root sr' s d x q vl L vb bl) ∧
    ∀ W pv, St w0 W B g mv mg gr root sr' s d x q vl L vb bl → W.ownsRow B 5 1 pv pl.length (cellsOf pl) → Calls Tryz.prog 26 #[.pointer (some ⟨gr, 0, none⟩), .string t, .string u, .slice a m cap] W (fun e w' => ∃ v, e = .returned (.tuple #[v, .bool br, .int .i64 er]) ∧ w'.ownsRow B 5 1 v pl.length (cellsOf pl) ∧ w'.ownsRow B 5 1 pv pl.length (cellsOf pl) ∧ St w0 w' B g mv mg gr root sr' sr' d x q vl L vb bl) := by
  have hbs : ∀ W, W.ownsRow B 5 1 vb bl.length (cellsOf bl) → Bytes W a bl ∧ m ≤ cap ∧ (a = none → cap = 0) := fun W ho => by
    obtain ⟨a', c', e, hB, hc, hz⟩ := bytes_of_own0 ho
    rw [hv] at e; injection e with e1 e2 e3; rw [e1, e3]; exact ⟨hB, by omega, hz⟩
  obtain ⟨a', cap', e, _, _, _, ha⟩ := h.bytes
  rw [hv] at e
  injection e with e1
  rw [← e1] at ha
  obtain ⟨o1, o2, o3⟩ := h.k.ok.resealR root t u bl
  refine ⟨_, _, _, (s.resealR root t u bl).2.1, o2, by omega, (reseal_l h.k.t hsn t u ht hu bl a m cap hm (by omega) (hbs _ h.b).2.1 ha (hbs _ h.b).1 hT.1 hT.2).mono fun e w' ⟨v, h1, h2, h3, h4⟩ => ⟨v, h1, own_mono h2 h.k.low, h.prog h3 h4⟩, fun W pv hW hp => (rReseal_any hW.k.r hW.k.ok hW.k.low hsn t u ht hu bl a m cap hm (by omega) (hbs _ hW.b).2.1 ha (hbs _ hW.b).1 (hbs _ hW.b).2.2).mono fun e w' ⟨v, h1, h2, h3, h4⟩ => ⟨v, h1, own_mono h2 hW.k.low, hW.k.bref hp h4, hW.ref h3 o1 h4⟩⟩
theorem st_key (h : St w0 w B g mv mg gr root s s d x q vl L vb bl) (t u : ByteArray) (ht : t.size ≤ maxLen) (hu : u.size ≤ maxLen) (v : Int) : ∃ (er : Int) (key : List UInt8) (nr ec : Int),
    (∀ W, TabsJ W → St w0 W B g mv mg gr root s s d x q vl L vb bl → Calls Tryz.prog 27 #[.pointer (some ⟨g, 0, none⟩), .string t, .string u, .int .i64 v] W (HashErr W key er)) ∧
    (∀ W, St w0 W B g mv mg gr root s s d x q vl L vb bl → Calls Tryz.prog 28 #[.pointer (some ⟨gr, 0, none⟩), .string t, .string u, .int .i64 v] W (HashErr W key er)) ∧
    (∀ W, St w0 W B g mv mg gr root s s d x q vl L vb bl → Calls Tryz.prog 29 #[.pointer (some ⟨g, 0, none⟩), .string t, .string u] W fun e w' => e = .returned (.tuple #[.int .i64 nr, .int .i64 ec]) ∧ Below W.heap.size W w') ∧
    (∀ W, St w0 W B g mv mg gr root s s d x q vl L vb bl → Calls Tryz.prog 30 #[.pointer (some ⟨gr, 0, none⟩), .string t, .string u] W fun e w' => e = .returned (.tuple #[.int .i64 nr, .int .i64 ec]) ∧ Below W.heap.size W w') :=
  ⟨_, _, _, _, fun W hT hW => key_m hW.k.t t u ht hu v hT.1 hT.2, fun W hW => rKey_any hW.k.r hW.k.ok t u ht hu v, fun W hW => current_m hW.k.t t u ht hu, fun W hW => rCur_any hW.k.r hW.k.ok t u ht hu⟩
end
end Go.Proofs.YtdglmoikgmlaaaaGreatDoor
