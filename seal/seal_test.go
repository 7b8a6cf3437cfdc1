package seal_test

import (
	"bytes"
	"crypto/hmac"
	"crypto/sha256"
	"encoding/binary"
	"encoding/hex"
	"math"
	"math/rand"
	"slices"
	"testing"

	"holdfast/api"
	"holdfast/hash"
	"holdfast/seal"
)

const (
	mostPlain = 1024
	leastLong = 24
	mostLong  = 1048
)

// sizes are those around which a block of the stream begins, up to the longest text.
var sizes = []int{0, 1, 2, 31, 32, 33, 63, 64, 65, 500, 1023, 1024}

var numbers = []uint64{0, 1, 7, 255, 256, 1 << 32, 1<<63 - 1, 1 << 63, 1<<63 + 1, math.MaxUint64}

// rising is a key that has no two bytes alike.
func rising() api.Hash {
	var key api.Hash
	for i := range key {
		key[i] = byte(i)
	}
	return key
}

func text(n int) []byte {
	b := make([]byte, n)
	for i := range b {
		b[i] = byte(5*i + i/256 + 3)
	}
	return b
}

// roomy is bytes with spare room behind them, all of which is to stay as it is.
func roomy(b []byte) (list, all []byte) {
	all = append(slices.Clone(b), bytes.Repeat([]byte{0xee}, 100)...)
	return all[:len(b)], all
}

// tagOf is the library's own HMAC.
func tagOf(key api.Hash, b []byte) []byte {
	m := hmac.New(sha256.New, key[:])
	m.Write(b)
	return m.Sum(nil)
}

// streamOf and sealedOf are those of the document's words, by the library's own HMAC.
func streamOf(key api.Hash, once uint64, n int) []byte {
	var out []byte
	for i := uint64(0); len(out) < n; i++ {
		place := binary.BigEndian.AppendUint64([]byte{115}, once)
		out = append(out, tagOf(key, binary.BigEndian.AppendUint64(place, i))...)
	}
	return out[:n]
}

func sealedOf(key api.Hash, once uint64, plain []byte) []byte {
	sealed := binary.BigEndian.AppendUint64(nil, once)
	for i, b := range streamOf(key, once, len(plain)) {
		sealed = append(sealed, plain[i]^b)
	}
	return retagged(key, append(sealed, make([]byte, 16)...))
}

// retagged is a text with the tag of what stands ahead of its last 16 bytes.
func retagged(key api.Hash, sealed []byte) []byte {
	ahead := slices.Clone(sealed[:len(sealed)-16])
	return append(ahead, tagOf(key, append([]byte{116}, ahead...))[:16]...)
}

func sealed(t *testing.T, key api.Hash, once uint64, plain []byte) []byte {
	t.Helper()
	b, e := seal.Seal(key, once, plain)
	if e != api.OK {
		t.Fatalf("Seal of %d bytes: %v", len(plain), e)
	}
	return b
}

func wantOpen(t *testing.T, key api.Hash, sealed, plain []byte, once uint64) {
	t.Helper()
	if p, n, e := seal.Open(key, sealed); e != api.OK || n != once || !bytes.Equal(p, plain) {
		t.Errorf("Open of %d bytes: %x %d %v, not %x %d", len(sealed), p, n, e, plain, once)
	}
}

func wantOpenError(t *testing.T, key api.Hash, sealed []byte, want api.Errno) {
	t.Helper()
	if p, n, e := seal.Open(key, sealed); e != want || n != 0 || len(p) != 0 {
		t.Errorf("Open of %d bytes: %x %d %v, not the error %v", len(sealed), p, n, e, want)
	}
}

func TestSealKnownAnswers(t *testing.T) {
	for _, c := range []struct {
		once        uint64
		plain, want string
	}{
		{7, "hello", "0000000000000007ecc992f78a2e25449b7c628b5cdce3fddb83a406db"},
		{math.MaxUint64, "", "ffffffffffffffff82c95ce751d003c4c2f3864b136b9a3d"},
		{1 << 63, "0123456789abcdef0123456789abcdefX", "80000000000000004a2456e1203fcc2adc24b55683a2de2ea8531dfa0be50a0405c7cba19ac68f6fb18c7257f0de511b47520af80129713bb4"},
	} {
		b := sealed(t, rising(), c.once, []byte(c.plain))
		if hex.EncodeToString(b) != c.want {
			t.Errorf("Seal of %q: %x, not %s", c.plain, b, c.want)
		}
		wantOpen(t, rising(), b, []byte(c.plain), c.once)
	}
}

func TestSealOfAllSizes(t *testing.T) {
	for n := range mostPlain + 1 {
		once := uint64(n) << 50
		b := sealed(t, rising(), once, text(n))
		if !bytes.Equal(b, sealedOf(rising(), once, text(n))) {
			t.Errorf("Seal of %d bytes: %x", n, b)
		}
		if len(b) != n+24 || len(b) != seal.Size(n) {
			t.Errorf("Seal of %d bytes has %d", n, len(b))
		}
		wantOpen(t, rising(), b, text(n), once)
	}
}

func TestSealOfAllNumbers(t *testing.T) {
	for _, once := range numbers {
		for _, n := range sizes {
			b := sealed(t, api.Hash{1}, once, text(n))
			if !bytes.Equal(b, sealedOf(api.Hash{1}, once, text(n))) {
				t.Errorf("Seal of %d bytes with %d: %x", n, once, b)
			}
			wantOpen(t, api.Hash{1}, b, text(n), once)
		}
	}
}

// P8.2 with chance keys, numbers and texts.
func TestOpenOfSeal(t *testing.T) {
	chance := rand.New(rand.NewSource(2))
	for range 300 {
		var key api.Hash
		chance.Read(key[:])
		plain := make([]byte, chance.Intn(mostPlain+1))
		chance.Read(plain)
		once := chance.Uint64()
		wantOpen(t, key, sealed(t, key, once, plain), plain, once)
	}
}

func TestSealOfNothing(t *testing.T) {
	for _, plain := range [][]byte{nil, {}} {
		b := sealed(t, api.Hash{}, 0, plain)
		if len(b) != 24 || !bytes.Equal(b, sealedOf(api.Hash{}, 0, nil)) {
			t.Errorf("Seal of no bytes: %x", b)
		}
		wantOpen(t, api.Hash{}, b, nil, 0)
	}
}

func TestSealTooLong(t *testing.T) {
	for _, n := range []int{mostPlain + 1, mostPlain + 2, mostLong, 5000, 1 << 20} {
		if b, e := seal.Seal(rising(), 1, make([]byte, n)); e != api.ErrLong || len(b) != 0 {
			t.Errorf("Seal of %d bytes: %x %v", n, b, e)
		}
	}
}

// The length is asked ahead of the tag, which is right here where the text is too long.
func TestOpenOfWrongLengths(t *testing.T) {
	for n := range leastLong {
		wantOpenError(t, rising(), make([]byte, n), api.ErrForm)
		wantOpenError(t, rising(), sealed(t, rising(), 1, text(40))[:n], api.ErrForm)
	}
	wantOpenError(t, rising(), nil, api.ErrForm)
	short := retagged(rising(), make([]byte, leastLong-1))
	wantOpenError(t, rising(), short, api.ErrForm)
	long := sealedOf(rising(), 1, text(mostPlain+1))
	wantOpenError(t, rising(), long, api.ErrLong)
	wantOpenError(t, rising(), make([]byte, mostLong+1), api.ErrLong)
	wantOpenError(t, rising(), make([]byte, 1<<20), api.ErrLong)
	wantOpenError(t, rising(), make([]byte, leastLong), api.ErrWrong)
	wantOpenError(t, rising(), make([]byte, mostLong), api.ErrWrong)
	wantOpen(t, rising(), sealedOf(rising(), 1, nil), nil, 1)
	wantOpen(t, rising(), sealedOf(rising(), 1, text(mostPlain)), text(mostPlain), 1)
}

// P8.4: each byte, by each of its bits.
func TestOpenOfChanged(t *testing.T) {
	for _, n := range []int{0, 1, 31, 32, 33, 70} {
		b := sealed(t, rising(), 1<<63|9, text(n))
		for i := range b {
			for bit := range 8 {
				changed := slices.Clone(b)
				changed[i] ^= 1 << bit
				wantOpenError(t, rising(), changed, api.ErrWrong)
			}
		}
	}
	b := sealed(t, rising(), 3, text(mostPlain))
	for i := range b {
		changed := slices.Clone(b)
		changed[i]++
		wantOpenError(t, rising(), changed, api.ErrWrong)
	}
}

// P8.4, the other way round: with the tag of what it is then, a changed text is opened.
func TestOpenOfChangedAndTagged(t *testing.T) {
	b := sealed(t, rising(), 9, text(40))
	for i := range len(b) - 16 {
		changed := slices.Clone(b)
		changed[i] ^= 0x81
		changed = retagged(rising(), changed)
		once := binary.BigEndian.Uint64(changed)
		plain := streamOf(rising(), once, 40)
		for j := range plain {
			plain[j] ^= changed[8+j]
		}
		wantOpen(t, rising(), changed, plain, once)
	}
}

func TestOpenOfCutOrLonger(t *testing.T) {
	b := sealed(t, rising(), 9, text(40))
	for n := leastLong; n < len(b); n++ {
		wantOpenError(t, rising(), b[:n], api.ErrWrong)
		wantOpenError(t, rising(), b[len(b)-n:], api.ErrWrong)
	}
	wantOpenError(t, rising(), append(slices.Clone(b), 0), api.ErrWrong)
}

func TestOpenByAnotherKey(t *testing.T) {
	b := sealed(t, rising(), 9, text(40))
	for i := range len(api.Hash{}) {
		key := rising()
		key[i] ^= 0x10
		wantOpenError(t, key, b, api.ErrWrong)
	}
}

// P8.3: what two bodies differ by is what the plain texts differ by.
func TestBodiesDifferAsTextsDo(t *testing.T) {
	for _, n := range []int{1, 32, 33, mostPlain} {
		a, b := text(n), text(n)
		for i := 0; i < n; i += 3 {
			b[i] ^= byte(i%255 + 1)
		}
		first, second := sealed(t, rising(), 5, a), sealed(t, rising(), 5, b)
		for i := range n {
			if first[8+i]^second[8+i] != a[i]^b[i] {
				t.Errorf("bodies of %d bytes differ by %x at %d", n, first[8+i]^second[8+i], i)
			}
		}
		if !bytes.Equal(first[:8], second[:8]) {
			t.Error("the number differs")
		}
	}
}

func TestSize(t *testing.T) {
	for n := range mostPlain + 1 {
		if seal.Size(n) != n+24 {
			t.Errorf("Size(%d): %d", n, seal.Size(n))
		}
	}
	for _, n := range []int{-1, -24, -25, mostPlain + 1, mostLong, math.MaxInt, math.MaxInt - 24, math.MinInt} {
		if seal.Size(n) != 0 {
			t.Errorf("Size(%d): %d", n, seal.Size(n))
		}
	}
}

func TestStream(t *testing.T) {
	for _, once := range numbers {
		for _, n := range sizes {
			if b, e := seal.Stream(rising(), once, n); e != api.OK || !bytes.Equal(b, streamOf(rising(), once, n)) {
				t.Errorf("Stream of %d bytes with %d: %x %v", n, once, b, e)
			}
		}
	}
	want := "8b00e88c1036a4bd7e77f7e09ff2d6f2c6489ec2fc4e785954dee999f5b2c6695f13841091bfd3f0482cb71906649e18273264fa3e0d5c03c4cd0d516b2ddfb24b3710b3aa32"
	if b, e := seal.Stream(rising(), 1, 70); e != api.OK || hex.EncodeToString(b) != want {
		t.Errorf("Stream of 70 bytes: %x %v", b, e)
	}
}

// The blocks are Tags of package hash, which the chapter names.
func TestStreamBlocks(t *testing.T) {
	key := rising()
	b, e := seal.Stream(key, 0x0102030405060708, mostPlain)
	if e != api.OK {
		t.Fatal(e)
	}
	for i := range mostPlain / 32 {
		place := []byte{115, 1, 2, 3, 4, 5, 6, 7, 8, 0, 0, 0, 0, 0, 0, 0, byte(i)}
		if block := hash.Tag(key[:], place); !bytes.Equal(b[32*i:32*i+32], block[:]) {
			t.Errorf("block %d: %x, not %x", i, b[32*i:32*i+32], block)
		}
	}
}

func TestStreamErrors(t *testing.T) {
	for _, n := range []int{-1, mostPlain + 1, math.MinInt, math.MaxInt} {
		if b, e := seal.Stream(rising(), 1, n); e != api.ErrRange || len(b) != 0 {
			t.Errorf("Stream of %d bytes: %x %v", n, b, e)
		}
	}
}

// P3: lists stay as they are, with their spare room, right or wrong.
func TestHandedInStays(t *testing.T) {
	for _, n := range append(slices.Clone(sizes), mostPlain+1) {
		plain, allPlain := roomy(text(n))
		plainWas := slices.Clone(allPlain)
		seal.Seal(rising(), 7, plain)
		if !bytes.Equal(allPlain, plainWas) {
			t.Errorf("a plain text of %d bytes is changed", n)
		}
		right := sealedOf(rising(), 7, text(n))
		wrong := slices.Clone(right)
		wrong[0]++
		for _, b := range [][]byte{right, wrong, right[:8]} {
			given, all := roomy(b)
			was := slices.Clone(all)
			seal.Open(rising(), given)
			if !bytes.Equal(all, was) {
				t.Errorf("a sealed text of %d bytes is changed", len(b))
			}
		}
	}
}

// P3: an answer, with its spare room, lies in nothing that was handed in or answered.
func TestAnswersAreTheCallers(t *testing.T) {
	for _, n := range sizes {
		plain, allPlain := roomy(text(n))
		first := sealed(t, rising(), 7, plain)
		second := sealed(t, rising(), 7, plain)
		want := slices.Clone(first)
		scribble(second)
		if !bytes.Equal(first, want) || !bytes.Equal(plain, text(n)) {
			t.Errorf("what Seal answers of %d bytes lies in another list", n)
		}
		scribble(allPlain)
		if !bytes.Equal(first, want) {
			t.Errorf("what Seal answers of %d bytes lies in the plain text", n)
		}
		given, all := roomy(want)
		opened, _, _ := seal.Open(rising(), given)
		again, _, _ := seal.Open(rising(), given)
		scribble(again)
		if !bytes.Equal(opened, text(n)) || !bytes.Equal(given, want) {
			t.Errorf("what Open answers of %d bytes lies in another list", n)
		}
		scribble(all)
		if !bytes.Equal(opened, text(n)) {
			t.Errorf("what Open answers of %d bytes lies in the sealed text", n)
		}
		stream, _ := seal.Stream(rising(), 7, n)
		other, _ := seal.Stream(rising(), 7, n)
		scribble(other)
		if !bytes.Equal(stream, streamOf(rising(), 7, n)) {
			t.Errorf("what Stream answers of %d bytes lies in another list", n)
		}
	}
}

func scribble(b []byte) {
	b = b[:cap(b)]
	for i := range b {
		b[i] ^= 0x5a
	}
}

// P6: the same again, whatever was asked between.
func TestNothingIsKept(t *testing.T) {
	a := sealed(t, rising(), 7, text(100))
	wantOpenError(t, rising(), make([]byte, 100), api.ErrWrong)
	sealed(t, api.Hash{1}, 8, text(50))
	if !bytes.Equal(sealed(t, rising(), 7, text(100)), a) {
		t.Error("another answer to the same")
	}
}
