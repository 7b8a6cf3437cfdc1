package keys_test

import (
	"bytes"
	"fmt"
	"math/rand"
	"testing"

	"holdfast/api"
	"holdfast/codec"
	"holdfast/keys"
)

// model is a tree as the document tells it, asked for one deed at a time.
type model struct {
	versions map[string]int
	gone     map[string]bool
	sealed   int
}

func (m *model) current(tenant, purpose string) (int, api.Errno) {
	if !codec.IsName(tenant) || !codec.IsName(purpose) {
		return 0, api.ErrName
	}
	if m.gone[tenant] {
		return 0, api.ErrGone
	}
	return max(1, m.versions[tenant+" "+purpose]), api.OK
}

func (m *model) rotate(tenant, purpose string) (int, api.Errno) {
	n, e := m.current(tenant, purpose)
	if e != api.OK {
		return 0, e
	}
	if n == 16 || n == 1 && m.rotated() == 16 {
		return 0, api.ErrFull
	}
	m.versions[tenant+" "+purpose] = n + 1
	return n + 1, api.OK
}

func (m *model) rotated() int {
	count := 0
	for at := range m.versions {
		if tenant, _, _ := bytes.Cut([]byte(at), []byte(" ")); !m.gone[string(tenant)] {
			count++
		}
	}
	return count
}

func (m *model) destroy(tenant string) api.Errno {
	if _, e := m.current(tenant, "p"); e != api.OK {
		return e
	}
	if len(m.gone) == 16 {
		return api.ErrFull
	}
	m.gone[tenant] = true
	return api.OK
}

// Chance deeds on few names, so that all limits are met; now and then the tree goes on as Load of its Rows (P9.6).
func TestChanceDeeds(t *testing.T) {
	met := map[string]int{}
	for seed := range int64(30) {
		chance := rand.New(rand.NewSource(seed))
		k, m := keys.New(rising()), &model{map[string]int{}, map[string]bool{}, 0}
		texts := [][]byte{nil}
		for range 1500 {
			tenant, purpose := fmt.Sprint("t", chance.Intn(3)), fmt.Sprint("p", chance.Intn(9))
			if chance.Intn(100) == 0 {
				tenant = fmt.Sprint("t", chance.Intn(30))
			}
			switch chance.Intn(12) {
			case 0, 1, 2, 3:
				n, e := k.Rotate(tenant, purpose)
				wantN, wantE := m.rotate(tenant, purpose)
				if n != wantN || e != wantE {
					t.Fatalf("Rotate(%s, %s): %d %v, not %d %v", tenant, purpose, n, e, wantN, wantE)
				}
				met[fmt.Sprint("rotate ", e)]++
			case 4:
				if chance.Intn(30) > 0 {
					tenant = fmt.Sprint("t", 3+chance.Intn(27))
				}
				e, want := k.Destroy(tenant), m.destroy(tenant)
				if e != want {
					t.Fatalf("Destroy(%s): %v, not %v", tenant, e, want)
				}
				met[fmt.Sprint("destroy ", e)]++
			case 5, 6:
				b, e := k.Seal(tenant, purpose, []byte(tenant+purpose))
				n, want := m.current(tenant, purpose)
				if e != want || e == api.OK && !bytes.Equal(b, sealedOf(t, rising(), tenant, purpose, n, m.sealed, []byte(tenant+purpose))) {
					t.Fatalf("Seal(%s, %s): %x %v, not %v", tenant, purpose, b, e, want)
				}
				if e == api.OK {
					m.sealed++
					texts = append(texts, b)
				}
			case 7, 8:
				wantReseal(t, k, m, tenant, purpose, texts[chance.Intn(len(texts))])
			case 9:
				k = load(t, rising(), k.Rows()...)
			default:
				n, e := k.Current(tenant, purpose)
				if want, wantE := m.current(tenant, purpose); n != want || e != wantE {
					t.Fatalf("Current(%s, %s): %d %v, not %d %v", tenant, purpose, n, e, want, wantE)
				}
			}
		}
	}
	for _, what := range []string{"rotate 0", "rotate 7", "rotate 12", "destroy 0", "destroy 7", "destroy 12"} {
		if met[what] == 0 {
			t.Errorf("%s was never met", what)
		}
	}
}

// wantReseal holds Open and Reseal of a text against what the current version makes of it.
func wantReseal(t *testing.T, k *keys.Tree, m *model, tenant, purpose string, b []byte) {
	t.Helper()
	plain, version, e := k.Open(tenant, purpose, b)
	fresh, changed, e2 := k.Reseal(tenant, purpose, b)
	if e != e2 || e == api.OK && string(plain) != tenant+purpose {
		t.Fatalf("Open(%s, %s): %q %v %v", tenant, purpose, plain, e, e2)
	}
	current, _ := m.current(tenant, purpose)
	if e != api.OK || version == current {
		if changed || e == api.OK && !bytes.Equal(fresh, b) {
			t.Fatalf("Reseal(%s, %s) of version %d: %x", tenant, purpose, version, fresh)
		}
		return
	}
	if !changed || !bytes.Equal(fresh, sealedOf(t, rising(), tenant, purpose, current, m.sealed, plain)) {
		t.Fatalf("Reseal(%s, %s) of version %d: %x", tenant, purpose, version, fresh)
	}
	m.sealed++
}
