package hash_test

import (
	"bytes"
	"crypto/hmac"
	"crypto/sha256"
	"encoding/hex"
	"math"
	"math/rand"
	"slices"
	"strings"
	"testing"

	"holdfast/api"
	"holdfast/codec"
	"holdfast/hash"
)

// sizes are those around which a block, or its end, begins anew.
var sizes = []int{0, 1, 3, 4, 31, 32, 33, 54, 55, 56, 57, 62, 63, 64, 65, 111, 118, 119, 120, 127, 128, 129, 183, 184, 191, 192, 193, 1000}

// count is so many bytes, no two neighbours alike.
func count(n int) []byte {
	b := make([]byte, n)
	for i := range b {
		b[i] = byte(7*i + i/256 + 1)
	}
	return b
}

// roomy is bytes with spare room behind them, all of which is to stay as it is.
func roomy(b []byte) (list, all []byte) {
	all = append(slices.Clone(b), bytes.Repeat([]byte{0xee}, 100)...)
	return all[:len(b)], all
}

func wantHex(t *testing.T, what string, got api.Hash, want string) {
	t.Helper()
	if hex.EncodeToString(got[:]) != want {
		t.Errorf("%s: %x, not %s", what, got, want)
	}
}

func wantHash(t *testing.T, what string, got api.Hash, e api.Errno, want api.Hash) {
	t.Helper()
	if e != api.OK || got != want {
		t.Errorf("%s: %x %v, not %x", what, got, e, want)
	}
}

func wantError(t *testing.T, what string, got api.Hash, e, want api.Errno) {
	t.Helper()
	if e != want || got != (api.Hash{}) {
		t.Errorf("%s: %x %v, not the error %v", what, got, e, want)
	}
}

// tagOf is the library's own HMAC.
func tagOf(key, b []byte) api.Hash {
	m := hmac.New(sha256.New, key)
	m.Write(b)
	return api.Hash(m.Sum(nil))
}

func TestSumKnownAnswers(t *testing.T) {
	for _, c := range []struct{ text, want string }{
		{"", "e3b0c44298fc1c149afbf4c8996fb92427ae41e4649b934ca495991b7852b855"},
		{"abc", "ba7816bf8f01cfea414140de5dae2223b00361a396177a9cb410ff61f20015ad"},
		{"\xbd", "68325720aabd7c82f30f554b313d0570c95accbb7dc4b5aae11204c08ffe732b"},
		{"\xc9\x8c\x8e\x55", "7abc22c0ae5af26ce93dbb94433a0e0b2e119d014f8e7f65bd56c61ccccd9504"},
		{"abcdbcdecdefdefgefghfghighijhijkijkljklmklmnlmnomnopnopq", "248d6a61d20638b8e5c026930c3e6039a33ce45964ff2167f6ecedd419db06c1"},
		{"abcdefghbcdefghicdefghijdefghijkefghijklfghijklmghijklmnhijklmnoijklmnopjklmnopqklmnopqrlmnopqrsmnopqrstnopqrstu", "cf5b16a778af8380036ce59e7b0492370b249b11e8f07a51afac45037afee9d1"},
		{strings.Repeat("\x00", 55), "02779466cdec163811d078815c633f21901413081449002f24aa3e80f0b88ef7"},
		{strings.Repeat("\x00", 56), "d4817aa5497628e7c77e6b606107042bbba3130888c5f47a375e6179be789fbb"},
		{strings.Repeat("\x00", 64), "f5a5fd42d16a20302798ef6ed309979b43003d2320d9f0e8ea9831a92759fb4b"},
		{strings.Repeat("a", 1000000), "cdc76e5c9914fb9281a1c7e284d73e67f1809a48a497200e046d39ccc7112cd0"},
	} {
		wantHex(t, "Sum of "+c.text[:min(8, len(c.text))], hash.Sum([]byte(c.text)), c.want)
	}
	wantHex(t, "Sum of nil", hash.Sum(nil), "e3b0c44298fc1c149afbf4c8996fb92427ae41e4649b934ca495991b7852b855")
}

func TestSumOfAllSizes(t *testing.T) {
	b := count(700)
	for n := range len(b) {
		if got, want := hash.Sum(b[:n]), api.Hash(sha256.Sum256(b[:n])); got != want {
			t.Errorf("Sum of %d bytes: %x, not %x", n, got, want)
		}
	}
}

func TestSumOfRandomBytes(t *testing.T) {
	chance := rand.New(rand.NewSource(1))
	for range 2000 {
		b := make([]byte, chance.Intn(300))
		chance.Read(b)
		if got, want := hash.Sum(b), api.Hash(sha256.Sum256(b)); got != want {
			t.Fatalf("Sum of %x: %x, not %x", b, got, want)
		}
	}
}

// Those of RFC 4231, and of no key and no bytes.
func TestTagKnownAnswers(t *testing.T) {
	rising := make([]byte, 25)
	for i := range rising {
		rising[i] = byte(i + 1)
	}
	long := strings.Repeat("\xaa", 131)
	for _, c := range []struct{ key, text, want string }{
		{"", "", "b613679a0814d9ec772f95d778c35fc5ff1697c493715653c6c712144292c5ad"},
		{strings.Repeat("\x0b", 20), "Hi There", "b0344c61d8db38535ca8afceaf0bf12b881dc200c9833da726e9376c2e32cff7"},
		{"Jefe", "what do ya want for nothing?", "5bdcc146bf60754e6a042426089575c75a003f089d2739839dec58b964ec3843"},
		{strings.Repeat("\xaa", 20), strings.Repeat("\xdd", 50), "773ea91e36800e46854db8ebd09181a72959098b3ef8c122d9635514ced565fe"},
		{string(rising), strings.Repeat("\xcd", 50), "82558a389a443c0ea4cc819899f2083a85f0faa3e578f8077a2e3ff46729665b"},
		{long, "Test Using Larger Than Block-Size Key - Hash Key First", "60e431591ee0b67f0d8a26aacbf5b77f8e0bc6213728c5140546040f0ee37f54"},
		{long, "This is a test using a larger than block-size key and a larger than block-size data. The key needs to be hashed before being used by the HMAC algorithm.", "9b09ffa71b942fcb27635fbcd5b0e944bfdc63644f0713938a7f51535c3a35e2"},
		{"key", "The quick brown fox jumps over the lazy dog", "f7bc83f430538424b13298e6aa6fb143ef4d59a14946175997479dbc2d1a3cd8"},
	} {
		wantHex(t, "Tag of "+c.text, hash.Tag([]byte(c.key), []byte(c.text)), c.want)
	}
	wantHex(t, "Tag of nil by nil", hash.Tag(nil, nil), "b613679a0814d9ec772f95d778c35fc5ff1697c493715653c6c712144292c5ad")
}

func TestTagOfAllSizes(t *testing.T) {
	for _, k := range sizes {
		for _, n := range sizes {
			key, b := count(k), slices.Repeat([]byte{byte(n)}, n)
			if got, want := hash.Tag(key, b), tagOf(key, b); got != want {
				t.Errorf("Tag of %d bytes by %d: %x, not %x", n, k, got, want)
			}
		}
	}
}

// A key of 64 bytes is taken as it is, one of 65 by its hash; noughts behind a shorter one change nothing.
func TestTagKeySizes(t *testing.T) {
	text := []byte("text")
	short := hash.Sum(count(65))
	if hash.Tag(count(65), text) != hash.Tag(short[:], text) {
		t.Error("a key of 65 bytes is not hashed first")
	}
	whole := hash.Sum(count(64))
	if hash.Tag(count(64), text) == hash.Tag(whole[:], text) {
		t.Error("a key of 64 bytes is hashed first")
	}
	if hash.Tag(count(63), text) != hash.Tag(append(count(63), 0), text) {
		t.Error("a key of 63 bytes has no nought behind it")
	}
	if hash.Tag(count(64), text) == hash.Tag(append(count(64), 0), text) {
		t.Error("a nought behind a key of 64 bytes changes nothing")
	}
}

// iterated is P7.2 by the library's own HMAC.
func iterated(password, salt string, cost int) api.Hash {
	h := tagOf([]byte(salt), []byte(password))
	for range cost {
		h = tagOf([]byte(password), h[:])
	}
	return h
}

func TestIterate(t *testing.T) {
	for _, password := range []string{"", "p", "\x00\xff", string(count(63)), string(count(64))} {
		for _, salt := range []string{"", "s", "\x00", string(count(7)), string(count(8))} {
			for _, cost := range []int{1, 2, 3, 63, api.MaxCost} {
				got, e := hash.Iterate(password, salt, cost)
				wantHash(t, "Iterate", got, e, iterated(password, salt, cost))
			}
		}
	}
}

func TestIterateKnownAnswers(t *testing.T) {
	for _, c := range []struct {
		cost int
		want string
	}{
		{1, "f9ce8da459b7e55d98fa2c5ce665eca8aa424cff09b0edcf5c43a1a3370b003f"},
		{2, "aaf70c89078a732b66685abc6c62e1a7ad56355c7cd54e88706f9c42eccb8bcd"},
		{api.MaxCost, "afbfcfdee839437fa66b3afbfc67a407741dd18881763108ef1426503f84fb58"},
	} {
		got, e := hash.Iterate("password", "salt", c.cost)
		if e != api.OK {
			t.Error(e)
		}
		wantHex(t, "Iterate", got, c.want)
	}
}

func TestIterateErrors(t *testing.T) {
	for _, c := range []struct {
		password, salt string
		cost           int
		want           api.Errno
	}{
		{string(count(65)), "s", 1, api.ErrLong},
		{"p", string(count(9)), 1, api.ErrLong},
		{string(count(65)), string(count(9)), 1, api.ErrLong},
		{strings.Repeat("p", 100000), "s", 1, api.ErrLong},
		{"p", "s", 0, api.ErrRange},
		{"p", "s", -1, api.ErrRange},
		{"p", "s", api.MaxCost + 1, api.ErrRange},
		{"p", "s", math.MinInt, api.ErrRange},
		{"p", "s", math.MaxInt, api.ErrRange},
		{"", "", 0, api.ErrRange},
		{string(count(64)), string(count(8)), 0, api.ErrRange},
		{string(count(64)), string(count(8)), api.MaxCost + 1, api.ErrRange},
		{string(count(65)), "s", 0, api.ErrLong},
		{"p", string(count(9)), 0, api.ErrLong},
		{"p", string(count(9)), math.MaxInt, api.ErrLong},
	} {
		got, e := hash.Iterate(c.password, c.salt, c.cost)
		wantError(t, "Iterate", got, e, c.want)
	}
}

func TestDerive(t *testing.T) {
	key := hash.Sum([]byte("key"))
	for _, labels := range [][]string{
		{"a"}, {""}, {"", ""}, {"a", "b"}, {"ab"}, {"b", "a"}, {"a\x00b"}, {"\xff"},
		slices.Repeat([]string{""}, api.MaxParts),
		slices.Repeat([]string{"labels"}, api.MaxParts),
		{string(count(api.MaxKey - 2))},
	} {
		path, e := codec.Key(labels...)
		if e != api.OK {
			t.Fatal(labels, e)
		}
		got, e := hash.Derive(key, labels...)
		wantHash(t, "Derive by "+strings.Join(labels, " "), got, e, tagOf(key[:], path))
	}
	got, e := hash.Derive(api.Hash{}, "a")
	wantHash(t, "Derive of noughts", got, e, tagOf(make([]byte, 32), []byte("a\x00\x01")))
}

func TestDeriveErrors(t *testing.T) {
	key := hash.Sum([]byte("key"))
	long := strings.Repeat("a", api.MaxKey-1)
	for _, c := range []struct {
		labels []string
		want   api.Errno
	}{
		{nil, api.ErrRange},
		{[]string{}, api.ErrRange},
		{slices.Repeat([]string{""}, api.MaxParts+1), api.ErrRange},
		{slices.Repeat([]string{long}, api.MaxParts+1), api.ErrRange},
		{[]string{long}, api.ErrLong},
		{[]string{strings.Repeat("\x00", api.MaxKey/2)}, api.ErrLong},
		{slices.Repeat([]string{"labels7"}, api.MaxParts), api.ErrLong},
	} {
		got, e := hash.Derive(key, c.labels...)
		wantError(t, "Derive", got, e, c.want)
	}
	got, e := hash.Derive(key)
	wantError(t, "Derive by no labels", got, e, api.ErrRange)
}

func TestChain(t *testing.T) {
	h := hash.Sum([]byte("ahead"))
	for _, n := range sizes {
		whole := append(slices.Clone(h[:]), count(n)...)
		wantHash(t, "Chain", hash.Chain(h, count(n)), api.OK, api.Hash(sha256.Sum256(whole)))
		wantHash(t, "Chain", hash.Chain(h, count(n)), api.OK, hash.Sum(whole))
	}
	wantHash(t, "Chain of nil", hash.Chain(h, nil), api.OK, hash.Sum(h[:]))
	wantHash(t, "Chain of noughts", hash.Chain(api.Hash{}, nil), api.OK, hash.Sum(make([]byte, 32)))
}

// P7.5: the first bytes may be the hash's, or the text's.
func TestChainIsAsIfWhole(t *testing.T) {
	for _, n := range sizes {
		if n < 32 {
			continue
		}
		whole := count(n)
		if hash.Chain(api.Hash(whole[:32]), whole[32:]) != hash.Sum(whole) {
			t.Errorf("Chain of %d bytes in two parts is not their Sum", n)
		}
	}
}

func TestSame(t *testing.T) {
	a := hash.Sum([]byte("a"))
	if !hash.Same(a, a) || !hash.Same(api.Hash{}, api.Hash{}) {
		t.Error("a hash is not the same as itself")
	}
	for i := range a {
		for bit := range 8 {
			b := a
			b[i] ^= 1 << bit
			if hash.Same(a, b) || hash.Same(b, a) {
				t.Errorf("the same, but for bit %d of byte %d", bit, i)
			}
		}
	}
	b := a
	b[0] ^= 1
	b[31] ^= 1
	if hash.Same(a, b) {
		t.Error("the same, but for one bit in two bytes")
	}
}

func TestHex(t *testing.T) {
	var rising api.Hash
	for i := range rising {
		rising[i] = byte(i)
	}
	for _, c := range []struct {
		h    api.Hash
		want string
	}{
		{api.Hash{}, strings.Repeat("0", 64)},
		{api.Hash{0x1f}, "1f" + strings.Repeat("0", 62)},
		{api.Hash(bytes.Repeat([]byte{0xff}, 32)), strings.Repeat("f", 64)},
		{rising, "000102030405060708090a0b0c0d0e0f101112131415161718191a1b1c1d1e1f"},
	} {
		if got := hash.Hex(c.h); got != c.want {
			t.Errorf("Hex of %x: %s", c.h, got)
		}
		got, e := hash.UnHex(c.want)
		wantHash(t, "UnHex of "+c.want, got, e, c.h)
	}
}

// Each byte comes at each place.
func TestUnHexOfHex(t *testing.T) {
	for first := range 256 {
		var h api.Hash
		for i := range h {
			h[i] = byte(first + 31*i)
		}
		if got := hash.Hex(h); got != hex.EncodeToString(h[:]) {
			t.Errorf("Hex of %x: %s", h, got)
		}
		got, e := hash.UnHex(hash.Hex(h))
		wantHash(t, "UnHex of Hex", got, e, h)
	}
}

func TestUnHexErrors(t *testing.T) {
	right := hash.Hex(hash.Sum(nil))
	for n := range 130 {
		if n == 64 {
			continue
		}
		got, e := hash.UnHex(strings.Repeat(right, 3)[:n])
		wantError(t, "UnHex of another length", got, e, api.ErrForm)
	}
	for i := range right {
		for c := range 256 {
			text := right[:i] + string([]byte{byte(c)}) + right[i+1:]
			got, e := hash.UnHex(text)
			if strings.Contains("0123456789abcdef", text[i:i+1]) {
				if e != api.OK || hash.Hex(got) != text {
					t.Errorf("UnHex of %s: %x %v", text, got, e)
				}
				continue
			}
			wantError(t, "UnHex of "+text, got, e, api.ErrForm)
		}
	}
	for _, text := range []string{strings.ToUpper(right), " " + right[1:], right[:63] + "\n", "0x" + right[2:], "+" + right[1:], strings.Repeat("é", 32), strings.Repeat("_", 64)} {
		got, e := hash.UnHex(text)
		wantError(t, "UnHex of "+text, got, e, api.ErrForm)
	}
}

// P3: lists stay as they are, with their spare room.
func TestHandedInStays(t *testing.T) {
	for _, n := range sizes {
		key, allKey := roomy(count(n))
		keyWas := slices.Clone(allKey)
		b, allBytes := roomy(count(n + 1))
		bytesWas := slices.Clone(allBytes)
		hash.Sum(b)
		hash.Tag(key, b)
		hash.Chain(api.Hash{1}, b)
		if !bytes.Equal(allKey, keyWas) || !bytes.Equal(allBytes, bytesWas) {
			t.Errorf("lists of %d bytes are changed", n)
		}
	}
	labels := []string{"a", "b", "spare"}
	hash.Derive(api.Hash{1}, labels[:2]...)
	if !slices.Equal(labels, []string{"a", "b", "spare"}) {
		t.Error("labels are changed", labels)
	}
}

// P3: key and bytes may lie in one another.
func TestListsThatOverlap(t *testing.T) {
	b := count(200)
	want := tagOf(slices.Clone(b[:100]), slices.Clone(b[50:]))
	if got := hash.Tag(b[:100], b[50:]); got != want || !bytes.Equal(b, count(200)) {
		t.Errorf("Tag of overlapping lists: %x, not %x", got, want)
	}
}

// P3, P6: an answer hangs on what was handed in at the call, and stays when that is changed.
func TestNothingIsKept(t *testing.T) {
	b := count(100)
	sum, tag, chain := hash.Sum(b), hash.Tag(b, b), hash.Chain(api.Hash{1}, b)
	sumWas, tagWas, chainWas := sum, tag, chain
	clear(b)
	hash.Sum(b)
	if sum != sumWas || tag != tagWas || chain != chainWas {
		t.Error("an answer changed with what was handed in")
	}
	b = count(100)
	if hash.Sum(b) != sum || hash.Tag(b, b) != tag || hash.Chain(api.Hash{1}, b) != chain {
		t.Error("another answer to the same")
	}
}
