/- Sealed texts as plain mathematics: the stream's blocks, a text crossed with the stream, the tag, the whole. -/
import Derived.Test.YtomhcccjeadefaaGreatDoorHMath
namespace Go.Proofs.YtomhcccjeadefaaGreatDoor
set_option linter.unusedVariables false
def sblock (key : List UInt8) (once i : Nat) : List UInt8 := hmac key (115 :: (be8 once ++ be8 i))
theorem sblock_len (key : List UInt8) (once i : Nat) : (sblock key once i).length = 32 := by unfold sblock hmac; exact sha_length _
def xorL (s t : List UInt8) : List UInt8 := List.zipWith (· ^^^ ·) s t
theorem xorL_len (s t : List UInt8) : (xorL s t).length = min s.length t.length := by simp [xorL]
def strm (key : List UInt8) (once k : Nat) : List UInt8 := ((List.range k).map (sblock key once)).flatten
theorem strm_succ (key : List UInt8) (once k : Nat) : strm key once (k + 1) = strm key once k ++ sblock key once k := by simp [strm, List.range_succ]
theorem strm_len (key : List UInt8) (once k : Nat) : (strm key once k).length = 32 * k := by
  induction k with
  | zero => simp [strm]
  | succ k ih => rw [strm_succ, List.length_append, ih, sblock_len]; omega
def nblk (n : Nat) : Nat := (n + 31) / 32
def cross (key : List UInt8) (once : Nat) (text : List UInt8) : List UInt8 := xorL (strm key once (nblk text.length)) text
theorem cross_len (key : List UInt8) (once : Nat) (text : List UInt8) : (cross key once text).length = text.length := by
  rw [cross, xorL_len, strm_len, nblk]; omega
theorem xor_get (s t : List UInt8) (i : Nat) (h : i < t.length) (hs : t.length ≤ s.length) : (xorL s t)[i]'(by rw [xorL_len]; omega) = s[i] ^^^ t[i] := by simp [xorL]
theorem xorL_back (s t : List UInt8) (hs : t.length ≤ s.length) : xorL s (xorL s t) = t := by
  apply List.ext_getElem
  · rw [xorL_len, xorL_len]; omega
  · intro i h1 h2
    rw [xor_get s (xorL s t) i (by rw [xorL_len]; omega) (by rw [xorL_len]; omega), xor_get s t i h2 hs, ← UInt8.xor_assoc, UInt8.xor_self, UInt8.zero_xor]
theorem cross_back (key : List UInt8) (once : Nat) (text : List UInt8) : cross key once (cross key once text) = text := by
  have h : (cross key once text).length = text.length := cross_len key once text
  have : cross key once (cross key once text) = xorL (strm key once (nblk text.length)) (cross key once text) := by rw [cross, h]
  rw [this]
  exact xorL_back _ _ (by rw [strm_len, nblk]; omega)
def part (pre : List (List UInt8)) (text : List UInt8) : List UInt8 := xorL pre.flatten text
def tagB (key ahead : List UInt8) : List UInt8 := (hmac key (116 :: ahead)).take 16
theorem tagB_len (key ahead : List UInt8) : (tagB key ahead).length = 16 := by
  unfold tagB hmac
  rw [List.length_take, sha_length]; rfl
def headB (key : List UInt8) (once : Nat) (plain : List UInt8) : List UInt8 := be8 once ++ cross key once plain
def sealB (key : List UInt8) (once : Nat) (plain : List UInt8) : List UInt8 := headB key once plain ++ tagB key (headB key once plain)
theorem headB_len (key : List UInt8) (once : Nat) (plain : List UInt8) : (headB key once plain).length = 8 + plain.length := by rw [headB, List.length_append, cross_len, be8_length]
theorem sealB_len (key : List UInt8) (once : Nat) (plain : List UInt8) : (sealB key once plain).length = plain.length + 24 := by rw [sealB, List.length_append, headB_len, tagB_len]; omega
def numB (l : List UInt8) : Nat := l.foldl (fun n c => (n * 256 + c.toNat) % 2 ^ 64) 0
theorem numB_be8 (n : Nat) (h : n < 2 ^ 64) : numB (be8 n) = n := by
  have e : be8 n = [UInt8.ofNat (n / 2 ^ 56), UInt8.ofNat (n / 2 ^ 48), UInt8.ofNat (n / 2 ^ 40), UInt8.ofNat (n / 2 ^ 32), UInt8.ofNat (n / 2 ^ 24), UInt8.ofNat (n / 2 ^ 16), UInt8.ofNat (n / 2 ^ 8), UInt8.ofNat (n / 2 ^ 0)] := rfl
  rw [e]
  simp only [numB, List.foldl_cons, List.foldl_nil, UInt8.toNat_ofNat']
  omega
end Go.Proofs.YtomhcccjeadefaaGreatDoor
