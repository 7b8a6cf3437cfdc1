/- YtdglmoikgmlaaaaGreatDoorJLift2 + YtdglmoikgmlaaaaGreatDoorJStr2 + YtdglmoikgmlaaaaGreatDoorJArgs -/
import Derived.Test.YtdglmoikgmlaaaaGreatDoorCards
import Derived.Test.YtdglmoikgmlaaaaGreatDoorTie
import Derived.Test.YtdglmoikgmlaaaaGreatDoorJT0
import Derived.ProofKit
import Derived.OpenShut
import Derived.ShutString
import Derived.ChangeOld
import Derived.Deep.DeepHandedRow
import Derived.Lib.LaidTab
import Derived.Stop.LaidErr
import Derived.SizedLaws
import Derived.SliceStrings
import Derived.Lib.SmallJoins
import Derived.Deep.Slices
import Derived.ChangeSlices
/- What the rows' list of variables gives, and what every law's lift shares (four tables). -/
namespace Go.Proofs.YtdglmoikgmlaaaaGreatDoor
open Go.ChangeShapes Go.WideShapes Go.ChangeAt Go.RowKit
set_option maxRecDepth 20000

def TabsJ (w : World) : Prop := TabAt w ∧ KAt w
theorem own : ownKnob Tryz.prog.godebug = none := by kernel_rfl
theorem laidOut : laidOutB Tryz.prog = true := by kernel_rfl
theorem gTab : Tryz.prog.globalNamed "holdfast/hash.roundWords" = some 1 := by kernel_rfl
theorem gTabType : (Tryz.prog.globals[1]?).map (·.type) = some 163 := by kernel_rfl
theorem cellsTab : Tryz.prog.cellsOf 163 = 64 := by kernel_rfl
theorem cellsWord : Tryz.prog.cellsOf 127 = 1 := by kernel_rfl
theorem cellsByte : Tryz.prog.cellsOf 5 = 1 := by kernel_rfl
theorem gTab8 : Tryz.prog.globalNamed "math/bits.deBruijn64tab" = some 4 := by kernel_rfl
theorem gTabType8 : (Tryz.prog.globals[4]?).map (·.type) = some 130 := by kernel_rfl
theorem cellsTab8 : Tryz.prog.cellsOf 130 = 64 := by kernel_rfl

/-- the list of variables that every row of this seat bears -/
abbrev laidList : List (String × DataW Unit) := Rows.keysPlaysRow.laid
def KZ : List Int := [1116352408, 1899447441, 3049323471, 3921009573, 961987163, 1508970993, 2453635748, 2870763221, 3624381080, 310598401, 607225278, 1426881987, 1925078388, 2162078206, 2614888103, 3248222580, 3835390401, 4022224774, 264347078, 604807628, 770255983, 1249150122, 1555081692, 1996064986, 2554220882, 2821834349, 2952996808, 3210313671, 3336571891, 3584528711, 113926993, 338241895, 666307205, 773529912, 1294757372, 1396182291, 1695183700, 1986661051, 2177026350, 2456956037, 2730485921, 2820302411, 3259730800, 3345764771, 3516065817, 3600352804, 4094571909, 275423344, 430227734, 506948616, 659060556, 883997877, 958139571, 1322822218, 1537002063, 1747873779, 1955562222, 2024104815, 2227730452, 2361852424, 2428436474, 2756734187, 3204031479, 3329325298]
theorem kz_at : ∀ i : Fin 64, KZ[i.val]'i.isLt = ((KL[i.val]'(by rw [KL_length]; exact i.isLt)).toNat : Int) := by decide +kernel

theorem kat_of {W : World} (h : laidMetH Tryz.prog laidList W) : KAt W := by
  have h0 : laidMet Tryz.prog laidList W := h
  have h1 := laidMet.tail (laidMet.tail (laidMet.tail h0))
  have h2 : Lib.TabIs Tryz.prog W "holdfast/hash.roundWords" .u32 KZ :=
    Lib.tabIs_of_head (rest := []) gTab gTabType Tryz.underlying163 Tryz.underlying127 cellsWord cellsTab h1
  intro i hi
  have h3 := h2.cell gTab i hi
  rw [h3]
  have h4 := kz_at ⟨i, hi⟩
  simp only at h4
  show some (Value.int .u32 (KZ.getD i 0)) = some (.int .u32 _)
  rw [← h4, List.getD_eq_getElem?_getD, List.getElem?_eq_getElem (show i < KZ.length from hi)]
  rfl
theorem tab8_of {W : World} (h : laidMetH Tryz.prog laidList W) : TabAt W := by
  have h0 : laidMet Tryz.prog laidList W := h
  have h1 := laidMet.tail h0
  have h2 : Lib.TabIs Tryz.prog W "math/bits.deBruijn64tab" .u8 [0, 1, 56, 2, 57, 49, 28, 3, 61, 58, 42, 50, 38, 29, 17, 4, 62, 47, 59, 36, 45, 43, 51, 22, 53, 39, 33, 30, 24, 18, 12, 5, 63, 55, 48, 27, 60, 41, 37, 16, 46, 35, 44, 21, 52, 32, 23, 11, 54, 26, 40, 15, 34, 20, 31, 10, 25, 14, 19, 9, 13, 8, 7, 6] :=
    Lib.tabIs_of_head (rest := [("internal/strconv.uint64pow10", Rows.laid_internal_strconv_uint64pow10), ("holdfast/hash.roundWords", Rows.laid_holdfast_hash_roundWords)]) gTab8 gTabType8 Tryz.underlying130 Tryz.underlying5 cellsByte cellsTab8 h1
  exact h2.cell gTab8 15 (by decide)
theorem tab_of {W : World} (h : laidMetH Tryz.prog laidList W) : TabsJ W := ⟨tab8_of h, kat_of h⟩

/-- a world for the witness: the tables hold what their initialisers lay -/
def laidAs (c : Array Value) : Obj → Obj
  | .cells _ t frozen => .cells c t frozen
  | o => o
def laidWorld (w : World) : World :=
  { w with heap := (((w.heap.modify 2 (laidAs #[.int .u64 1, .int .u64 10, .int .u64 100, .int .u64 1000, .int .u64 10000, .int .u64 100000, .int .u64 1000000, .int .u64 10000000, .int .u64 100000000, .int .u64 1000000000, .int .u64 10000000000, .int .u64 100000000000, .int .u64 1000000000000, .int .u64 10000000000000, .int .u64 100000000000000, .int .u64 1000000000000000, .int .u64 10000000000000000, .int .u64 100000000000000000, .int .u64 1000000000000000000, .int .u64 10000000000000000000])).modify 3 (laidAs #[.int .u8 0, .int .u8 1, .int .u8 28, .int .u8 2, .int .u8 29, .int .u8 14, .int .u8 24, .int .u8 3, .int .u8 30, .int .u8 22, .int .u8 20, .int .u8 15, .int .u8 25, .int .u8 17, .int .u8 4, .int .u8 8, .int .u8 31, .int .u8 27, .int .u8 13, .int .u8 23, .int .u8 21, .int .u8 19, .int .u8 16, .int .u8 7, .int .u8 26, .int .u8 12, .int .u8 18, .int .u8 6, .int .u8 11, .int .u8 5, .int .u8 10, .int .u8 9])).modify 4 (laidAs #[.int .u8 0, .int .u8 1, .int .u8 56, .int .u8 2, .int .u8 57, .int .u8 49, .int .u8 28, .int .u8 3, .int .u8 61, .int .u8 58, .int .u8 42, .int .u8 50, .int .u8 38, .int .u8 29, .int .u8 17, .int .u8 4, .int .u8 62, .int .u8 47, .int .u8 59, .int .u8 36, .int .u8 45, .int .u8 43, .int .u8 51, .int .u8 22, .int .u8 53, .int .u8 39, .int .u8 33, .int .u8 30, .int .u8 24, .int .u8 18, .int .u8 12, .int .u8 5, .int .u8 63, .int .u8 55, .int .u8 48, .int .u8 27, .int .u8 60, .int .u8 41, .int .u8 37, .int .u8 16, .int .u8 46, .int .u8 35, .int .u8 44, .int .u8 21, .int .u8 52, .int .u8 32, .int .u8 23, .int .u8 11, .int .u8 54, .int .u8 26, .int .u8 40, .int .u8 15, .int .u8 34, .int .u8 20, .int .u8 31, .int .u8 10, .int .u8 25, .int .u8 14, .int .u8 19, .int .u8 9, .int .u8 13, .int .u8 8, .int .u8 7, .int .u8 6])).modify 1 (laidAs #[.int .u32 1116352408, .int .u32 1899447441, .int .u32 3049323471, .int .u32 3921009573, .int .u32 961987163, .int .u32 1508970993, .int .u32 2453635748, .int .u32 2870763221, .int .u32 3624381080, .int .u32 310598401, .int .u32 607225278, .int .u32 1426881987, .int .u32 1925078388, .int .u32 2162078206, .int .u32 2614888103, .int .u32 3248222580, .int .u32 3835390401, .int .u32 4022224774, .int .u32 264347078, .int .u32 604807628, .int .u32 770255983, .int .u32 1249150122, .int .u32 1555081692, .int .u32 1996064986, .int .u32 2554220882, .int .u32 2821834349, .int .u32 2952996808, .int .u32 3210313671, .int .u32 3336571891, .int .u32 3584528711, .int .u32 113926993, .int .u32 338241895, .int .u32 666307205, .int .u32 773529912, .int .u32 1294757372, .int .u32 1396182291, .int .u32 1695183700, .int .u32 1986661051, .int .u32 2177026350, .int .u32 2456956037, .int .u32 2730485921, .int .u32 2820302411, .int .u32 3259730800, .int .u32 3345764771, .int .u32 3516065817, .int .u32 3600352804, .int .u32 4094571909, .int .u32 275423344, .int .u32 430227734, .int .u32 506948616, .int .u32 659060556, .int .u32 883997877, .int .u32 958139571, .int .u32 1322822218, .int .u32 1537002063, .int .u32 1747873779, .int .u32 1955562222, .int .u32 2024104815, .int .u32 2227730452, .int .u32 2361852424, .int .u32 2428436474, .int .u32 2756734187, .int .u32 3204031479, .int .u32 3329325298]) }
theorem laid_met (os : Os) (args : Array Value) : laidMet Tryz.prog laidList ((laidWorld (World.holding Tryz.prog os ⟨#[], #[], []⟩)).forCall (fun _ _ => 0) ⟨#[], args, []⟩).memory :=
  laidMet_of_run' 8 (by kernel_rfl) (by kernel_rfl)

/-- what a walk is told of a row of bytes -/
structure BytesIn (w : World) (a : Option Addr) (cap : Nat) (l : List UInt8) : Prop where
  bytes : Bytes w a l
  nilcap : a = none → cap = 0
  cap : l.length ≤ cap
  length : l.length ≤ 140737488351232
theorem bytesByte : Tryz.prog.bytesOf 5 = 1 := by kernel_rfl
theorem open_bytes {H : Type} {enc : TypeId × Value → H} {W : World} {ts : List TypeId} {ds : List (DataW H)} {j : Nat} {a : Option Addr} {len cap : Nat} {d : DataW H} {p : List MemPlace}
    (hsz : (DataW.weightsEach Tryz.prog ts ds).all (· ≤ reachBytes) = true) (ht : ts[j]? = some 41) (hd : ds[j]? = some d)
    (h : DataW.Trod enc Tryz.prog W 0 (fun _ => true) true 41 (.slice a len cap) d p) : ∃ l : List UInt8, l.length = len ∧ BytesIn W a cap l := by
  obtain ⟨fuel, hf⟩ := h
  rcases open_ints Tryz.underlying41 Tryz.underlying5 cellsByte hf with ⟨hcs, _⟩ | ⟨x, l', c', zs, hcs, _, hl, hm, hz, hx, hcell, hwz⟩
  · simp [Value.cells] at hcs
    obtain ⟨rfl, rfl, rfl⟩ := hcs
    exact ⟨[], rfl, fun i hi => by simp at hi, fun _ => rfl, by simp, by simp⟩
  · simp [Value.cells] at hcs
    obtain ⟨rfl, rfl, rfl⟩ := hcs
    simp only [Prod.mk.injEq] at hx
    obtain ⟨rfl, _⟩ := hx
    simp only [if_true] at hz
    have hlen : ((zs.take len).map fun z => UInt8.ofNat z.toNat).length = len := by rw [List.length_map, List.length_take]; omega
    refine ⟨(zs.take len).map fun z => UInt8.ofNat z.toNat, hlen, fun i hi => ?_, (fun h => by cases h), by rw [hlen]; exact hl, ?_⟩
    · obtain ⟨b, o, spot⟩ := x
      have hc := hcell i (by omega)
      have hspot : spot = none := by simpa [Addr.add] using World.cell?_spot (hcell 0 (by omega))
      subst hspot
      refine ⟨b, o, rfl, ?_⟩
      rw [addr_add] at hc
      rw [hc]
      have hi' : i < zs.length := by omega
      have hw := hwz zs[i] (List.getElem_mem _)
      have hr : 0 ≤ zs[i] ∧ zs[i] ≤ 255 := by simpa [Lit.wf, IntKind.min, IntKind.max, IntKind.signed, IntKind.bits] using hw
      simp only [List.getD, List.getElem?_eq_getElem hi', Option.getD_some, List.getElem_map, List.getElem_take]
      congr 2
      rw [UInt8.toNat_ofNat']
      omega
    · have := sized_slice hsz ht hd Tryz.underlying41
      rw [bytesByte] at this
      simp only [lits, List.length_map, reachBytes] at this
      rw [hlen]
      simp only [List.length_take, List.length_drop] at this
      omega
theorem mapM_ints {H : Type} {enc : TypeId × Value → H} {P : Program} {e : TypeId} {q : IntKind} {W : World} {base : Nat} {sp : Nat → Bool} {held : Bool} (he : P.underlying e = some (.int q)) {m : Nat} {cs : List Value} {c : Nat} : ∀ (L : List Nat) (xs : List (DataW H × List MemPlace)),
    L.mapM (fun i => DataW.trod enc P W base sp held m e ((cs.drop (i * c)).take c)) = some xs → ∀ i ∈ L, ∃ a, (cs.drop (i * c)).take c = [.int q a] ∧ (Lit.int q a).wf = true
  | [], xs, h, i, hi => by cases hi
  | j :: L, xs, h, i, hi => by
    rw [List.mapM_cons] at h
    simp only [bind, Option.bind_eq_some_iff, pure, Option.some.injEq] at h
    obtain ⟨y, hy, ys, hys, rfl⟩ := h
    rcases List.mem_cons.1 hi with rfl | hi
    · obtain ⟨a, ea, _, wa⟩ := DataW.trod_int he hy
      exact ⟨a, ea, wa⟩
    · exact mapM_ints he L ys hys i hi
/-- an argument that is a hash -/
theorem open_hash {H : Type} {enc : TypeId × Value → H} {W : World} {v : Value} {d : DataW H} {p : List MemPlace} {base0 : Nat} (hv : Value.okWide Tryz.prog W .any base0 23 v)
    (h : DataW.Trod enc Tryz.prog W 0 (fun _ => true) true 23 v d p) : ∃ O l, v = .agg O ∧ HV O l := by
  simp only [Value.okWide, Tryz.underlying23] at hv
  obtain ⟨xs, rfl, hs, _⟩ := hv
  have hs32 : xs.size = 32 := hs.trans (by kernel_rfl)
  obtain ⟨fuel, hf⟩ := h
  cases fuel with
  | zero => simp [DataW.trod] at hf
  | succ m =>
    rw [DataW.trod_step] at hf
    unfold DataW.trodStep at hf
    simp only [Tryz.underlying23, Value.cells] at hf
    split at hf
    · simp only [Option.map_eq_some_iff] at hf
      obtain ⟨ys, hy, _⟩ := hf
      have hall := mapM_ints Tryz.underlying5 _ ys hy
      rw [cellsByte] at hall
      refine ⟨xs, xs.toList.map (fun v => match v with | .int _ z => UInt8.ofNat z.toNat | _ => 0), rfl, ?_, by simp [hs32]⟩
      apply Array.ext
      · simp [bvs, cellsOf]
      · intro i h1 h2
        obtain ⟨a, ea, wa⟩ := hall i (by simp; omega)
        have ex : xs[i] = .int .u8 a := by
          have h3 : (xs.toList.drop (i * 1)).take 1 = [xs[i]] := by
            rw [Nat.mul_one, List.drop_eq_getElem_cons (by simpa using h1)]
            simp
          rw [h3] at ea
          simpa using ea
        have hr : 0 ≤ a ∧ a ≤ 255 := by simpa [Lit.wf, IntKind.min, IntKind.max, IntKind.signed, IntKind.bits] using wa
        simp only [bvs, cellsOf, List.getElem_toArray, List.getElem_map, Array.getElem_toList, ex]
        congr 1
        rw [UInt8.toNat_ofNat']
        omega
    · cases hf
end Go.Proofs.YtdglmoikgmlaaaaGreatDoor

/- How long a text is that came in. -/
namespace Go.Proofs.YtdglmoikgmlaaaaGreatDoor
open Go.ChangeShapes Go.WideShapes Go.ChangeAt Go.RowKit
theorem size_str {H : Type} {ts : List TypeId} {ds : List (DataW H)} {j : Nat} {l : List UInt8}
    (hsz : (DataW.weightsEach Tryz.prog ts ds).all (· ≤ reachBytes) = true) (ht : ts[j]? = some 9) (hd : ds[j]? = some (.lit (.string l))) : l.length ≤ 140737488351232 := by
  have := List.all_eq_true.1 hsz _ (DataW.weights_mem_each ht hd l.length (by simp [DataW.weights]))
  exact of_decide_eq_true this
end Go.Proofs.YtdglmoikgmlaaaaGreatDoor

/- What an argument that is a row of deeds, or one deed, gives to a walk. -/
namespace Go.Proofs.YtdglmoikgmlaaaaGreatDoor
open Go.RowKit
open Go.ChangeShapes Go.WideShapes Go.ChangeAt Go.Deep
set_option linter.unusedVariables false
set_option maxRecDepth 20000
/-- a deed on keys -/
structure KD where
  kd : Int
  ten : ByteArray
  pur : ByteArray
  a : Option Addr
  bs : List UInt8
  c : Nat
  n : Int
  last : Bool
def KD.vals (q : KD) : List Value := [.int .i64 q.kd, .string q.ten, .string q.pur, .slice q.a q.bs.length q.c, .int .i64 q.n, .bool q.last]
structure KDOk (w : World) (q : KD) : Prop where
  bytes : BytesIn w q.a q.c q.bs
  ten : q.ten.size ≤ maxLen
  pur : q.pur.size ≤ maxLen
theorem BytesIn.below {w w' : World} {a : Option Addr} {c : Nat} {l : List UInt8} (h : BytesIn w a c l) (hb : Below w.heap.size w w') : BytesIn w' a c l := ⟨h.bytes.below hb, h.nilcap, h.cap, h.length⟩
theorem KDOk.below {w w' : World} {q : KD} (h : KDOk w q) (hb : Below w.heap.size w w') : KDOk w' q := ⟨h.bytes.below hb, h.ten, h.pur⟩
/-- deeds that lie in a row -/
structure KDs (w : World) (a : Option Addr) (l : List KD) : Prop where
  cells : ∀ i (h : i < l.length), ∃ b o, a = some ⟨b, o, none⟩ ∧ b < w.heap.size ∧ w.rangeAt b (o + i * 6) l[i].vals
  oks : ∀ q ∈ l, KDOk w q
  len : l.length ≤ 9223372036854775807
theorem KDs.below {w w' : World} {a : Option Addr} {l : List KD} (h : KDs w a l) (hb : Below w.heap.size w w') : KDs w' a l := by
  refine ⟨fun i hi => ?_, fun q hq => (h.oks q hq).below hb, h.len⟩
  obtain ⟨b, o, e, hlt, hr⟩ := h.cells i hi
  exact ⟨b, o, e, Nat.lt_of_lt_of_le hlt hb.size, fun j u hj => (hb.cell (p := ⟨b, o + i * 6 + j, none⟩) hlt).trans (hr j u hj)⟩
theorem addr_addA (b o j : Nat) : (⟨b, o, none⟩ : Addr).add j = ⟨b, o + j, none⟩ := by unfold Addr.add; split <;> simp_all
theorem list6J {α : Type} {l : List α} (h : l.length = 6) : ∃ a b c d e f, l = [a, b, c, d, e, f] := by
  match l, h with
  | [a, b, c, d, e, f], _ => exact ⟨a, b, c, d, e, f, rfl⟩
theorem choose_ltA {β : Type} [Inhabited β] {n : Nat} {P : Nat → β → Prop} (h : ∀ i, i < n → ∃ b, P i b) : ∃ f : Nat → β, ∀ i, i < n → P i (f i) := by
  classical
  refine ⟨fun i => if hi : i < n then Classical.choose (h i hi) else default, fun i hi => ?_⟩
  simp only [hi, dif_pos]
  exact Classical.choose_spec (h i hi)
theorem cellsKD : Tryz.prog.cellsOf 61 = 6 := by kernel_rfl
theorem weightsAll_mem {H : Type} {P : Program} {e : TypeId} {l : List (DataW H)} {d : DataW H} (h : d ∈ l) : ∀ m ∈ d.weights P e, m ∈ DataW.weightsAll P e l := by
  induction l with
  | nil => cases h
  | cons a l ih =>
    intro m hm
    simp only [DataW.weightsAll, List.mem_append]
    rcases List.mem_cons.1 h with rfl | h
    · exact .inl hm
    · exact .inr (ih h m hm)
theorem open_bytesW {H : Type} {enc : TypeId × Value → H} {W : World} {v : Value} {fuel : Nat} {x : DataW H × List MemPlace}
    (hf : DataW.trod enc Tryz.prog W 0 (fun _ => true) true fuel 41 [v] = some x) (hw : ∀ m ∈ x.1.weights Tryz.prog 41, m ≤ reachBytes) : ∃ (a : Option Addr) (l : List UInt8) (c : Nat), v = .slice a l.length c ∧ BytesIn W a c l := by
  rcases open_ints Tryz.underlying41 Tryz.underlying5 cellsByte hf with ⟨hcs, _⟩ | ⟨x, len, c', zs, hcs, _, hl, hm, hz, hx, hcell, hwz⟩
  · simp only [List.cons.injEq, and_true] at hcs
    exact ⟨none, [], 0, hcs, fun i hi => by simp at hi, fun _ => rfl, by simp, by simp⟩
  · simp only [List.cons.injEq, and_true] at hcs
    subst hx
    simp only [if_true] at hz
    have hlen : ((zs.take len).map fun z => UInt8.ofNat z.toNat).length = len := by rw [List.length_map, List.length_take]; omega
    refine ⟨some x, (zs.take len).map fun z => UInt8.ofNat z.toNat, c', by rw [hlen]; exact hcs, fun i hi => ?_, (fun h => by cases h), by rw [hlen]; exact hl, ?_⟩
    · obtain ⟨b, o, spot⟩ := x
      have hc := hcell i (by omega)
      have hspot : spot = none := by simpa [Addr.add] using World.cell?_spot (hcell 0 (by omega))
      subst hspot
      refine ⟨b, o, rfl, ?_⟩
      rw [addr_add] at hc
      rw [hc]
      have hi' : i < zs.length := by omega
      have hw := hwz zs[i] (List.getElem_mem _)
      have hr : 0 ≤ zs[i] ∧ zs[i] ≤ 255 := by simpa [Lit.wf, IntKind.min, IntKind.max, IntKind.signed, IntKind.bits] using hw
      simp only [List.getD, List.getElem?_eq_getElem hi', Option.getD_some, List.getElem_map, List.getElem_take]
      congr 2
      rw [UInt8.toNat_ofNat']
      omega
    · have h9 := hw ((zs.take len).length * 1 + (zs.drop len).length * 1) (by
        simp only [DataW.weights, Tryz.underlying41]
        rw [bytesByte]
        refine List.mem_cons.2 (.inl ?_)
        simp only [lits, List.length_map]
        omega)
      rw [List.length_take, List.length_drop] at h9
      simp only [reachBytes] at h9
      rw [hlen]
      omega
theorem open_kd1 {H : Type} {enc : TypeId × Value → H} {W : World} {fuel : Nat} {cs : List Value} {d : DataW H × List MemPlace} (hlen : cs.length = 6)
    (h2 : DataW.trod enc Tryz.prog W 0 (fun _ => true) true fuel 61 cs = some d) (hwi : ∀ m ∈ d.1.weights Tryz.prog 61, m ≤ reachBytes) : ∃ q : KD, cs = q.vals ∧ KDOk W q := by
  obtain ⟨xs, k, hk, hxy, _, hxl, hf⟩ := DataW.trod_struct Tryz.underlying61 h2
  obtain ⟨v0, v1, v2, v3, v4, v5, rfl⟩ := list6J hlen
  have g0 := hf 0 _ rfl
  have g1 := hf 1 _ rfl
  have g2 := hf 2 _ rfl
  have g3 := hf 3 _ rfl
  have g4 := hf 4 _ rfl
  have g5 := hf 5 _ rfl
  have s0 : Tryz.prog.cellsOf 3 = 1 := by kernel_rfl
  have s1 : Tryz.prog.cellsOf 9 = 1 := by kernel_rfl
  have s2 : Tryz.prog.cellsOf 41 = 1 := by kernel_rfl
  have s3 : Tryz.prog.cellsOf 4 = 1 := by kernel_rfl
  simp [s0, s1, s2, s3] at g0 g1 g2 g3 g4 g5
  obtain ⟨y0, q0⟩ : ∃ y, DataW.trod enc Tryz.prog W 0 (fun _ => true) true k 3 [v0] = some y := ⟨_, g0.trans (List.getElem?_eq_getElem (by rw [hxl]; decide))⟩
  obtain ⟨y1, q1⟩ : ∃ y, DataW.trod enc Tryz.prog W 0 (fun _ => true) true k 9 [v1] = some y := ⟨_, g1.trans (List.getElem?_eq_getElem (by rw [hxl]; decide))⟩
  obtain ⟨y2, q2⟩ : ∃ y, DataW.trod enc Tryz.prog W 0 (fun _ => true) true k 9 [v2] = some y := ⟨_, g2.trans (List.getElem?_eq_getElem (by rw [hxl]; decide))⟩
  obtain ⟨y3, q3, w3⟩ : ∃ y, DataW.trod enc Tryz.prog W 0 (fun _ => true) true k 41 [v3] = some y ∧ ∀ m ∈ y.1.weights Tryz.prog 41, m ≤ reachBytes := ⟨_, g3.trans (List.getElem?_eq_getElem (by rw [hxl]; decide)), fun m hm => hwi m (by
    rw [hxy]
    simp only [DataW.weights, Tryz.underlying61]
    exact DataW.weights_mem_each (j := 3) (t := 41) rfl (by rw [List.getElem?_map, List.getElem?_eq_getElem (by rw [hxl]; decide)]; rfl) m hm)⟩
  obtain ⟨y4, q4⟩ : ∃ y, DataW.trod enc Tryz.prog W 0 (fun _ => true) true k 3 [v4] = some y := ⟨_, g4.trans (List.getElem?_eq_getElem (by rw [hxl]; decide))⟩
  obtain ⟨y5, q5⟩ : ∃ y, DataW.trod enc Tryz.prog W 0 (fun _ => true) true k 4 [v5] = some y := ⟨_, g5.trans (List.getElem?_eq_getElem (by rw [hxl]; decide))⟩
  obtain ⟨n0, e0, _, _⟩ := DataW.trod_int Tryz.underlying3 q0
  obtain ⟨n1, e1, _, k1⟩ := DataW.trod_string Tryz.underlying9 q1
  obtain ⟨n2, e2, _, k2⟩ := DataW.trod_string Tryz.underlying9 q2
  obtain ⟨a3, l3, c3, e3, b3⟩ := open_bytesW q3 w3
  obtain ⟨n4, e4, _, _⟩ := DataW.trod_int Tryz.underlying3 q4
  obtain ⟨n5, e5, _⟩ := DataW.trod_bool Tryz.underlying4 q5
  simp only [List.cons.injEq, and_true] at e0 e1 e2 e4 e5
  subst e0 e1 e2 e3 e4 e5
  exact ⟨⟨n0, n1, n2, a3, l3, c3, n4, n5⟩, rfl, b3, k1, k2⟩
theorem open_kdeeds {H : Type} {enc : TypeId × Value → H} {W : World} {a : Option Addr} {len cap : Nat} {d : DataW H} {p : List MemPlace}
    (h : DataW.Trod enc Tryz.prog W 0 (fun _ => true) true 24 (.slice a len cap) d p) (hw : ∀ m ∈ d.weights Tryz.prog 24, m ≤ reachBytes) : ∃ l : List KD, l.length = len ∧ KDs W a l := by
  obtain ⟨fuel, hf⟩ := h
  rcases open_slice Tryz.underlying24 hf with ⟨hcs, _⟩ | ⟨x, l', c', m, n, D, Pl, hcs, hb, hl, hm, hmm, hdx, hx⟩
  · simp [Value.cells] at hcs
    obtain ⟨rfl, rfl, rfl⟩ := hcs
    exact ⟨[], rfl, fun i hi => by simp at hi, fun x hx => by simp at hx, by simp⟩
  · simp [Value.cells] at hcs
    obtain ⟨rfl, rfl, rfl⟩ := hcs
    simp only [if_true] at hmm
    rw [cellsKD] at hx
    simp only [Prod.mk.injEq] at hdx
    obtain ⟨rfl, _⟩ := hdx
    have hwD : ∀ i, i < len → ∀ m ∈ (D i).weights Tryz.prog 61, m ≤ reachBytes := fun i hi m hm => hw m (by
      simp only [DataW.weights, Tryz.underlying24]
      exact List.mem_cons_of_mem _ (List.mem_append_left _ (weightsAll_mem (List.mem_map.2 ⟨i, List.mem_range.2 hi, rfl⟩) m hm)))
    have each : ∀ i, i < len → ∃ q : KD, (∃ b o, x = ⟨b, o, none⟩ ∧ b < W.heap.size ∧ W.rangeAt b (o + i * 6) q.vals) ∧ KDOk W q := by
      intro i hi
      obtain ⟨cs', h1, h2⟩ := hx i (by omega)
      obtain ⟨_, hlen, hcell⟩ := World.cells?_some h1
      obtain ⟨q, rfl, hq⟩ := open_kd1 hlen h2 (hwD i hi)
      obtain ⟨bb, o, spot⟩ := x
      have hspot : spot = none := by
        obtain ⟨cs0, z1, _⟩ := hx 0 (by omega)
        obtain ⟨_, zl, zc⟩ := World.cells?_some z1
        have := (zc 0 (by omega)).trans (List.getElem?_eq_getElem (by omega))
        simpa [Addr.add] using World.cell?_spot this
      subst hspot
      refine ⟨q, ⟨bb, o, rfl, ?_, fun j u hj => ?_⟩, hq⟩
      · have c0 := hcell 0 (by omega)
        rw [Deep.add_add, addr_addA] at c0
        exact World.block_lt_of_cell? _ _ (c0.trans rfl)
      · have hj6 : j < 6 := (List.getElem?_eq_some_iff.1 hj).1
        have c0 := hcell j hj6
        rw [Deep.add_add, addr_addA] at c0
        rw [Nat.add_assoc, c0]
        exact hj
    have hinh : Inhabited KD := ⟨⟨0, ⟨#[]⟩, ⟨#[]⟩, none, [], 0, 0, false⟩⟩
    obtain ⟨q, hq⟩ := choose_ltA each
    refine ⟨(List.range len).map q, by simp, fun i hi => ?_, fun y hy => ?_, by have h9 : maxLen = 9223372036854775807 := (by decide); rw [List.length_map, List.length_range]; omega⟩
    · have hi' : i < len := by simpa using hi
      obtain ⟨⟨b, o, e, hlt, hr⟩, _⟩ := hq i hi'
      exact ⟨b, o, by rw [e], hlt, by simpa using hr⟩
    · obtain ⟨i, hi, rfl⟩ := List.mem_map.1 hy
      exact (hq i (List.mem_range.1 hi)).2
theorem open_kdeed {H : Type} {enc : TypeId × Value → H} {W : World} {r0 : Reach} {b0 : Nat} {v : Value} {d : DataW H} {p : List MemPlace}
    (hv : Value.okWide Tryz.prog W r0 b0 61 v) (h : DataW.Trod enc Tryz.prog W 0 (fun _ => true) true 61 v d p) (hw : ∀ m ∈ d.weights Tryz.prog 61, m ≤ reachBytes) : ∃ q : KD, v = .agg q.vals.toArray ∧ KDOk W q := by
  obtain ⟨cs, rfl, _⟩ := okWide_struct Tryz.underlying61 hv
  obtain ⟨fuel, h2⟩ := h
  have h2 : DataW.trod enc Tryz.prog W 0 (fun _ => true) true fuel 61 cs.toList = some (d, p) := by simpa [Value.cells] using h2
  obtain ⟨_, _, _, _, hlen, _, _⟩ := DataW.trod_struct Tryz.underlying61 h2
  rw [cellsKD] at hlen
  obtain ⟨q, hq, hk⟩ := open_kd1 hlen h2 hw
  refine ⟨q, ?_, hk⟩
  rw [← hq]
theorem weights_at {H : Type} {ts : List TypeId} {ds : List (DataW H)} {j : Nat} {t : TypeId} {d : DataW H}
    (hsz : (DataW.weightsEach Tryz.prog ts ds).all (· ≤ reachBytes) = true) (ht : ts[j]? = some t) (hd : ds[j]? = some d) : ∀ m ∈ d.weights Tryz.prog t, m ≤ reachBytes := fun m hm =>
  of_decide_eq_true (List.all_eq_true.1 hsz _ (DataW.weights_mem_each ht hd m hm))
end Go.Proofs.YtdglmoikgmlaaaaGreatDoor
