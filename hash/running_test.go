package hash

import (
	"crypto/sha256"
	"testing"

	"holdfast/api"
)

func bytesOf(n int) []byte {
	b := make([]byte, n)
	for i := range b {
		b[i] = byte(11*i + 1)
	}
	return b
}

// P7.5: wherever the parts begin.
func TestPartsAreAsIfWhole(t *testing.T) {
	b := bytesOf(200)
	for _, n := range []int{0, 1, 55, 56, 63, 64, 65, 128, 200} {
		want := api.Hash(sha256.Sum256(b[:n]))
		for i := range n + 1 {
			if got := start().with(b[:i]).with(b[i:n]).sum(); got != want {
				t.Errorf("%d bytes, in parts at %d: %x, not %x", n, i, got, want)
			}
		}
	}
	one := start()
	for i := range b {
		one = one.with(nil).with(b[i : i+1])
	}
	if one.sum() != api.Hash(sha256.Sum256(b)) {
		t.Error("byte by byte it is another hash")
	}
}

// A running hash goes on in two ways, and is itself as it was.
func TestRunningHashIsCopied(t *testing.T) {
	b := bytesOf(300)
	for _, n := range []int{0, 10, 63, 64, 100} {
		ahead := start().with(b[:n])
		first, second := ahead.with(b[n:200]), ahead.with(b[n:])
		for _, c := range []struct {
			running running
			bytes   []byte
		}{{ahead, b[:n]}, {first, b[:200]}, {second, b}, {ahead, b[:n]}, {first, b[:200]}} {
			if got, want := c.running.sum(), api.Hash(sha256.Sum256(c.bytes)); got != want {
				t.Errorf("%d bytes of %d: %x, not %x", n, len(c.bytes), got, want)
			}
		}
	}
}
