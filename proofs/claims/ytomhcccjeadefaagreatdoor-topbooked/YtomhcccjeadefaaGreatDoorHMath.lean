/- SHA-256 as plain mathematics: words of 32 bits, rounds, blocks, and what stands behind the bytes. No program. -/
import GoSem.Op.IntBits
import GoSem.Op.Shift
namespace Go.Proofs.YtomhcccjeadefaaGreatDoor
abbrev W32 := BitVec 32
def rotr (x : W32) (n : Nat) : W32 := x <<< (32 - n) ||| x >>> n
structure S8 where
  a : W32
  b : W32
  c : W32
  d : W32
  e : W32
  f : W32
  g : W32
  h : W32
  deriving DecidableEq
def S8.toL (s : S8) : List W32 := [s.a, s.b, s.c, s.d, s.e, s.f, s.g, s.h]
theorem S8.toL_length (s : S8) : s.toL.length = 8 := rfl
def t1 (s : S8) (w : W32) : W32 := s.h + (rotr s.e 6 ^^^ rotr s.e 11 ^^^ rotr s.e 25) + (s.e &&& s.f ^^^ ~~~s.e &&& s.g) + w
def t2 (s : S8) : W32 := (rotr s.a 2 ^^^ rotr s.a 13 ^^^ rotr s.a 22) + (s.a &&& s.b ^^^ s.a &&& s.c ^^^ s.b &&& s.c)
def rd (s : S8) (w : W32) : S8 := ⟨t1 s w + t2 s, s.a, s.b, s.c, s.d + t1 s w, s.e, s.f, s.g⟩
def S8.add (s t : S8) : S8 := ⟨s.a + t.a, s.b + t.b, s.c + t.c, s.d + t.d, s.e + t.e, s.f + t.f, s.g + t.g, s.h + t.h⟩
def packW (l : List UInt8) : W32 := l.foldl (fun a c => a <<< 8 ||| BitVec.ofNat 32 c.toNat) 0
def wordAt (bs : List UInt8) (i j : Nat) : W32 := packW (((bs.take i).drop (4 * j)).take 4)
def wordsAt (bs : List UInt8) (i : Nat) : List W32 := (List.range 16).map (wordAt bs i)
def nearMix (x : W32) : W32 := rotr x 17 ^^^ rotr x 19 ^^^ x >>> 10
def farMix (x : W32) : W32 := rotr x 7 ^^^ rotr x 18 ^^^ x >>> 3
def nextW (ws : List W32) : W32 := nearMix (ws.getD (ws.length - 2) 0) + ws.getD (ws.length - 7) 0 + farMix (ws.getD (ws.length - 15) 0) + ws.getD (ws.length - 16) 0
def ext : Nat → List W32 → List W32
  | 0, ws => ws
  | k + 1, ws => ext k ws ++ [nextW (ext k ws)]
theorem ext_length (k : Nat) (ws : List W32) : (ext k ws).length = ws.length + k := by
  induction k with
  | zero => rfl
  | succ k ih => simp [ext, ih]; omega
theorem wordsAt_length (bs : List UInt8) (i : Nat) : (wordsAt bs i).length = 16 := by simp [wordsAt]
def sched (bs : List UInt8) : List W32 := ext 48 (wordsAt bs 64)
theorem sched_length (bs : List UInt8) : (sched bs).length = 64 := by rw [sched, ext_length, wordsAt_length]
def KN : List Nat := [
  0x428a2f98, 0x71374491, 0xb5c0fbcf, 0xe9b5dba5, 0x3956c25b, 0x59f111f1, 0x923f82a4, 0xab1c5ed5,
  0xd807aa98, 0x12835b01, 0x243185be, 0x550c7dc3, 0x72be5d74, 0x80deb1fe, 0x9bdc06a7, 0xc19bf174,
  0xe49b69c1, 0xefbe4786, 0x0fc19dc6, 0x240ca1cc, 0x2de92c6f, 0x4a7484aa, 0x5cb0a9dc, 0x76f988da,
  0x983e5152, 0xa831c66d, 0xb00327c8, 0xbf597fc7, 0xc6e00bf3, 0xd5a79147, 0x06ca6351, 0x14292967,
  0x27b70a85, 0x2e1b2138, 0x4d2c6dfc, 0x53380d13, 0x650a7354, 0x766a0abb, 0x81c2c92e, 0x92722c85,
  0xa2bfe8a1, 0xa81a664b, 0xc24b8b70, 0xc76c51a3, 0xd192e819, 0xd6990624, 0xf40e3585, 0x106aa070,
  0x19a4c116, 0x1e376c08, 0x2748774c, 0x34b0bcb5, 0x391c0cb3, 0x4ed8aa4a, 0x5b9cca4f, 0x682e6ff3,
  0x748f82ee, 0x78a5636f, 0x84c87814, 0x8cc70208, 0x90befffa, 0xa4506ceb, 0xbef9a3f7, 0xc67178f2]
def KL : List W32 := KN.map (BitVec.ofNat 32)
theorem KL_length : KL.length = 64 := rfl
def kws (bs : List UInt8) : List W32 := List.zipWith (· + ·) (sched bs) KL
theorem kws_length (bs : List UInt8) : (kws bs).length = 64 := by simp [kws, sched_length, KL_length]
def comp (s : S8) (bs : List UInt8) : S8 := s.add ((kws bs).foldl rd s)
def blkN : Nat → S8 → List UInt8 → S8
  | 0, s, _ => s
  | n + 1, s, bs => blkN n (comp s (bs.take 64)) (bs.drop 64)
def blks (s : S8) (bs : List UInt8) : S8 := blkN (bs.length / 64) s bs
def init : S8 := ⟨0x6a09e667#32, 0xbb67ae85#32, 0x3c6ef372#32, 0xa54ff53a#32, 0x510e527f#32, 0x9b05688c#32, 0x1f83d9ab#32, 0x5be0cd19#32⟩
theorem blkN_append (n : Nat) (s : S8) (a b : List UInt8) (h : a.length = 64 * n) (m : Nat) : blkN (n + m) s (a ++ b) = blkN m (blkN n s a) b := by
  induction n generalizing s a with
  | zero => obtain rfl : a = [] := by cases a <;> simp_all
            simp [blkN]
  | succ n ih =>
    rw [show n + 1 + m = (n + m) + 1 by omega, blkN, blkN]
    rw [List.take_append_of_le_length (by omega), List.drop_append_of_le_length (by omega)]
    exact ih _ _ (by simp; omega)
theorem blks_append (s : S8) (a b : List UInt8) (h : a.length % 64 = 0) : blks s (a ++ b) = blks (blks s a) b := by
  unfold blks
  rw [List.length_append, show (a.length + b.length) / 64 = a.length / 64 + b.length / 64 by omega]
  exact blkN_append _ _ _ _ (by omega) _
theorem blks_short (s : S8) (b : List UInt8) (h : b.length < 64) : blks s b = s := by
  unfold blks
  rw [Nat.div_eq_of_lt h]
  rfl
theorem blks_one (s : S8) (b : List UInt8) (h : b.length = 64) : blks s b = comp s b := by
  unfold blks
  rw [h]
  simp [blkN, List.take_of_length_le (Nat.le_of_eq h)]
theorem blks_rest (s : S8) (a b : List UInt8) (h : a.length % 64 = 0) (hb : b.length < 64) : blks s (a ++ b) = blks s a := by
  rw [blks_append _ _ _ h, blks_short _ _ hb]
def be8 (n : Nat) : List UInt8 := (List.range 8).map fun i => UInt8.ofNat (n / 2 ^ (56 - 8 * i))
theorem be8_length (n : Nat) : (be8 n).length = 8 := rfl
def noughts (n : Nat) : Nat := (64 - (n + 1 + 8) % 64) % 64
def pad (n : Nat) : List UInt8 := 128 :: List.replicate (noughts n) 0 ++ be8 (n * 8)
theorem pad_length (n : Nat) : (pad n).length = noughts n + 9 := by simp [pad, be8_length]
def outB (s : S8) : List UInt8 := (List.range 32).map fun i => UInt8.ofNat ((s.toL.getD (i / 4) 0).toNat / 2 ^ (24 - 8 * (i % 4)))
theorem outB_length (s : S8) : (outB s).length = 32 := by simp [outB]
def sha (m : List UInt8) : List UInt8 := outB (blks init (m ++ pad m.length))
theorem sha_length (m : List UInt8) : (sha m).length = 32 := outB_length _
def blockOf (key : List UInt8) : List UInt8 := (if 64 < key.length then sha key else key) ++ List.replicate (64 - (if 64 < key.length then sha key else key).length) 0
theorem blockOf_length (key : List UInt8) : (blockOf key).length = 64 := by
  unfold blockOf
  split <;> simp [sha_length]
  omega
def maskB (m : UInt8) (l : List UInt8) : List UInt8 := l.map (· ^^^ m)
theorem maskB_length (m : UInt8) (l : List UInt8) : (maskB m l).length = l.length := by simp [maskB]
def hmac (key b : List UInt8) : List UInt8 := sha (maskB 0x5c (blockOf key) ++ sha (maskB 0x36 (blockOf key) ++ b))
theorem hmac_length (key b : List UInt8) : (hmac key b).length = 32 := sha_length _
end Go.Proofs.YtomhcccjeadefaaGreatDoor
