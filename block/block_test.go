package block_test

import (
	"bytes"
	"math"
	"slices"
	"testing"

	"holdfast/api"
	"holdfast/block"
)

// filled is a block that has one byte everywhere.
func filled(c byte) []byte {
	return bytes.Repeat([]byte{c}, api.PageBytes)
}

func newDisk(t *testing.T, blocks int) *block.Disk {
	t.Helper()
	d, e := block.New(blocks)
	if e != api.OK || d == nil {
		t.Fatalf("New(%d): %v %v", blocks, d, e)
	}
	return d
}

func write(t *testing.T, d *block.Disk, n int, b []byte) {
	t.Helper()
	if e := d.Write(n, b...); e != api.OK {
		t.Fatalf("Write(%d): %v", n, e)
	}
}

func cut(t *testing.T, d *block.Disk, k int) *block.Disk {
	t.Helper()
	c, e := d.Cut(k)
	if e != api.OK || c == nil {
		t.Fatalf("Cut(%d): %v %v", k, c, e)
	}
	return c
}

func sameImage(a, b [][]byte) bool {
	return slices.EqualFunc(a, b, bytes.Equal)
}

// scripted is a disk of so many blocks with writes by a fixed rule, and the image ahead of each of them, and behind the last one.
func scripted(t *testing.T, blocks, writes int) (*block.Disk, [][][]byte, []int) {
	t.Helper()
	var first [][]byte
	for n := range blocks {
		first = append(first, filled(byte(200+n)))
	}
	d, e := block.Load(first...)
	if e != api.OK {
		t.Fatal(e)
	}
	images := [][][]byte{d.Image()}
	var order []int
	for i := range writes {
		n := (i*i + i/3) % blocks
		b := filled(byte(i))
		b[i%api.PageBytes] = byte(n)
		write(t, d, n, b)
		order = append(order, n)
		images = append(images, d.Image())
	}
	return d, images, order
}

func TestNewMakesBlocksOfZero(t *testing.T) {
	for _, blocks := range []int{1, 2, 17, api.MaxBlocks} {
		d := newDisk(t, blocks)
		if d.Blocks() != blocks || d.Count() != 0 || len(d.Writes()) != 0 {
			t.Error(blocks, d.Blocks(), d.Count(), d.Writes())
		}
		image := d.Image()
		if len(image) != blocks {
			t.Fatal(blocks, len(image))
		}
		for n, b := range image {
			if !bytes.Equal(b, filled(0)) {
				t.Errorf("block %d of %d: %v", n, blocks, b)
			}
		}
	}
}

func TestNewRefusesRange(t *testing.T) {
	for _, blocks := range []int{0, -1, api.MaxBlocks + 1, math.MinInt, math.MaxInt} {
		if d, e := block.New(blocks); d != nil || e != api.ErrRange {
			t.Error(blocks, d, e)
		}
	}
}

func TestLoadTakesAnImage(t *testing.T) {
	for _, blocks := range []int{1, 3, api.MaxBlocks} {
		var image [][]byte
		for n := range blocks {
			image = append(image, filled(byte(n*7+1)))
		}
		d, e := block.Load(image...)
		if e != api.OK || d.Blocks() != blocks || d.Count() != 0 || len(d.Writes()) != 0 || !sameImage(d.Image(), image) {
			t.Error(blocks, e)
		}
	}
}

func TestLoadRefuses(t *testing.T) {
	if d, e := block.Load(); d != nil || e != api.ErrRange {
		t.Error("no block", d, e)
	}
	many := make([][]byte, api.MaxBlocks+1)
	if d, e := block.Load(many...); d != nil || e != api.ErrRange {
		t.Error("too many blocks come ahead of their lengths", d, e)
	}
	for i := range many {
		many[i] = filled(1)
	}
	if d, e := block.Load(many...); d != nil || e != api.ErrRange {
		t.Error("too many blocks", d, e)
	}
	good := filled(1)
	for _, length := range []int{0, 1, api.PageBytes - 1, api.PageBytes + 1, 2 * api.PageBytes} {
		bad := make([]byte, length)
		for _, image := range [][][]byte{{bad}, {bad, good}, {good, good, bad}, {good, nil}} {
			if d, e := block.Load(image...); d != nil || e != api.ErrForm {
				t.Error(length, d, e)
			}
		}
	}
}

func TestReadTellsWhatWriteWrote(t *testing.T) {
	d := newDisk(t, 3)
	for i, n := range []int{1, 0, 2, 1} {
		write(t, d, n, filled(byte(i+1)))
		if b, e := d.Read(n); e != api.OK || !bytes.Equal(b, filled(byte(i+1))) {
			t.Error(i, n, b, e)
		}
		if d.Count() != i+1 {
			t.Error(i, d.Count())
		}
	}
	want := [][]byte{filled(2), filled(4), filled(3)}
	if !sameImage(d.Image(), want) {
		t.Error(d.Image())
	}
	if !slices.Equal(d.Writes(), []int{1, 0, 2, 1}) {
		t.Error(d.Writes())
	}
}

func TestReadRefuses(t *testing.T) {
	d := newDisk(t, 2)
	for _, n := range []int{-1, 2, math.MinInt, math.MaxInt} {
		if b, e := d.Read(n); b != nil || e != api.ErrRange {
			t.Error(n, b, e)
		}
	}
}

func TestWriteRefusesAndChangesNothing(t *testing.T) {
	d := newDisk(t, 2)
	write(t, d, 1, filled(9))
	ahead := d.Image()
	for _, n := range []int{-1, 2, math.MinInt, math.MaxInt} {
		if e := d.Write(n, filled(1)...); e != api.ErrRange {
			t.Error(n, e)
		}
		if e := d.Write(n, 1, 2); e != api.ErrRange {
			t.Error("the range is named ahead of the form", n, e)
		}
	}
	for _, length := range []int{0, 1, api.PageBytes - 1, api.PageBytes + 1} {
		if e := d.Write(0, make([]byte, length)...); e != api.ErrForm {
			t.Error(length, e)
		}
	}
	if e := d.Write(0); e != api.ErrForm {
		t.Error("no bytes", e)
	}
	if d.Count() != 1 || !slices.Equal(d.Writes(), []int{1}) || !sameImage(d.Image(), ahead) {
		t.Error(d.Count(), d.Writes())
	}
}

func TestAWriteOfTheSameBytesIsOneMore(t *testing.T) {
	d := newDisk(t, 1)
	write(t, d, 0, filled(0))
	write(t, d, 0, filled(0))
	if d.Count() != 2 || !slices.Equal(d.Writes(), []int{0, 0}) {
		t.Error(d.Count(), d.Writes())
	}
}

func TestNilDisk(t *testing.T) {
	var d *block.Disk
	if d.Blocks() != 0 || d.Count() != 0 || len(d.Writes()) != 0 || len(d.Image()) != 0 || d.Fork() != nil {
		t.Error("a nil disk has something")
	}
	for _, n := range []int{-1, 0, 1} {
		if b, e := d.Read(n); b != nil || e != api.ErrNil {
			t.Error("Read", n, b, e)
		}
		if e := d.Write(n, filled(1)...); e != api.ErrNil {
			t.Error("Write", n, e)
		}
		if e := d.Write(n); e != api.ErrNil {
			t.Error("Write of nothing", n, e)
		}
		if c, e := d.Cut(n); c != nil || e != api.ErrNil {
			t.Error("Cut", n, c, e)
		}
	}
}

func TestExampleOfTheChapter(t *testing.T) {
	d := newDisk(t, 2)
	write(t, d, 1, filled(7))
	if d.Count() != 1 || !slices.Equal(d.Writes(), []int{1}) {
		t.Error(d.Count(), d.Writes())
	}
	if c := cut(t, d, 0); !sameImage(c.Image(), [][]byte{filled(0), filled(0)}) {
		t.Error(c.Image())
	}
}

func TestCutIsTheDiskBehindItsWrites(t *testing.T) {
	d, images, order := scripted(t, 5, 60)
	if d.Count() != len(order) || !slices.Equal(d.Writes(), order) {
		t.Fatal(d.Count(), d.Writes(), order)
	}
	for k := range images {
		c := cut(t, d, k)
		if !sameImage(c.Image(), images[k]) {
			t.Errorf("Cut(%d) has another image", k)
		}
		if c.Blocks() != d.Blocks() || c.Count() != 0 || len(c.Writes()) != 0 {
			t.Errorf("Cut(%d): %d blocks, %d writes, %v", k, c.Blocks(), c.Count(), c.Writes())
		}
	}
}

func TestCutRefusesRange(t *testing.T) {
	d, _, _ := scripted(t, 3, 4)
	for _, k := range []int{-1, 5, math.MinInt, math.MaxInt} {
		if c, e := d.Cut(k); c != nil || e != api.ErrRange {
			t.Error(k, c, e)
		}
	}
	fresh := newDisk(t, 1)
	if c, e := fresh.Cut(1); c != nil || e != api.ErrRange {
		t.Error(c, e)
	}
}

func TestCutOfAllAndOfNone(t *testing.T) {
	d, images, _ := scripted(t, 4, 9)
	if c := cut(t, d, d.Count()); !block.Same(c, d) || !sameImage(c.Image(), d.Image()) {
		t.Error("Cut of Count is another image")
	}
	if c := cut(t, d, 0); !sameImage(c.Image(), images[0]) {
		t.Error("Cut of 0 is not the beginning")
	}
	fresh := newDisk(t, 2)
	if c := cut(t, fresh, 0); !block.Same(c, fresh) {
		t.Error("Cut of a disk without writes")
	}
}

func TestNeighbouringCutsPartInOneBlock(t *testing.T) {
	d, _, order := scripted(t, 5, 40)
	for k := range order {
		a, b := cut(t, d, k).Image(), cut(t, d, k+1).Image()
		for n := range a {
			if n != order[k] && !bytes.Equal(a[n], b[n]) {
				t.Errorf("cuts %d and %d part in block %d too", k, k+1, n)
			}
		}
	}
}

func TestBlockNotWrittenBetweenCutsIsTheSame(t *testing.T) {
	d, _, order := scripted(t, 7, 24)
	for from := range order {
		a := cut(t, d, from).Image()
		for to := from; to <= len(order); to++ {
			b := cut(t, d, to).Image()
			for n := range a {
				if !slices.Contains(order[from:to], n) && !bytes.Equal(a[n], b[n]) {
					t.Errorf("block %d parts between cuts %d and %d", n, from, to)
				}
			}
		}
	}
}

func TestSame(t *testing.T) {
	a, b := newDisk(t, 2), newDisk(t, 2)
	if !block.Same(a, a) || !block.Same(a, b) {
		t.Error("alike")
	}
	if !block.Same(nil, nil) || block.Same(nil, a) || block.Same(a, nil) {
		t.Error("nil")
	}
	if block.Same(a, newDisk(t, 3)) || block.Same(newDisk(t, 3), a) {
		t.Error("more blocks")
	}
	last := filled(0)
	last[api.PageBytes-1] = 1
	write(t, b, 1, last)
	if block.Same(a, b) || block.Same(b, a) {
		t.Error("one byte")
	}
	write(t, b, 1, filled(0))
	if !block.Same(a, b) || !block.Same(b, a) {
		t.Error("writes do not count, bytes do")
	}
}

func TestForkHasTheSame(t *testing.T) {
	d, images, order := scripted(t, 4, 11)
	f := d.Fork()
	if !block.Same(d, f) || f.Blocks() != d.Blocks() || f.Count() != d.Count() || !slices.Equal(f.Writes(), order) {
		t.Fatal(f.Blocks(), f.Count(), f.Writes())
	}
	for k := range images {
		if !sameImage(cut(t, f, k).Image(), images[k]) {
			t.Errorf("Cut(%d) of the fork", k)
		}
	}
}

func TestForksGoApart(t *testing.T) {
	d, images, order := scripted(t, 4, 6)
	f := d.Fork()
	write(t, d, 0, filled(91))
	write(t, f, 1, filled(92))
	write(t, f, 0, filled(93))
	if d.Count() != 7 || f.Count() != 8 || !slices.Equal(d.Writes(), append(slices.Clone(order), 0)) || !slices.Equal(f.Writes(), append(slices.Clone(order), 1, 0)) {
		t.Fatal(d.Writes(), f.Writes())
	}
	for k := range images {
		if !sameImage(cut(t, d, k).Image(), images[k]) || !sameImage(cut(t, f, k).Image(), images[k]) {
			t.Errorf("Cut(%d)", k)
		}
	}
	behind := images[len(images)-1]
	if !sameImage(d.Image(), [][]byte{filled(91), behind[1], behind[2], behind[3]}) {
		t.Error("the disk has what its fork wrote")
	}
	if !sameImage(f.Image(), [][]byte{filled(93), filled(92), behind[2], behind[3]}) {
		t.Error("the fork has what its disk wrote")
	}
}

func TestCutGoesApart(t *testing.T) {
	d, images, _ := scripted(t, 3, 5)
	c := cut(t, d, 5)
	write(t, c, 0, filled(99))
	if !sameImage(d.Image(), images[5]) || d.Count() != 5 || c.Count() != 1 {
		t.Error("a write to the cut is seen in the disk")
	}
	write(t, d, 1, filled(98))
	if !sameImage(cut(t, c, 0).Image(), images[5]) {
		t.Error("a write to the disk is seen in the cut")
	}
}

// withSpare is a list with room behind its end, and all of that room.
func withSpare(b []byte) (list, room []byte) {
	room = append(slices.Clone(b), 0xaa, 0xbb, 0xcc)
	return room[:len(b)], room
}

func TestWhatIsHandedInStays(t *testing.T) {
	list, room := withSpare(filled(5))
	kept := slices.Clone(room)
	d, e := block.Load(list, list)
	if e != api.OK {
		t.Fatal(e)
	}
	write(t, d, 0, list)
	write(t, d, 1, filled(6))
	cut(t, d, 1)
	if !bytes.Equal(room, kept) {
		t.Error("a list that was handed in has changed")
	}
	clear(room)
	if b, _ := d.Read(0); !bytes.Equal(b, filled(5)) {
		t.Error("the disk has kept a list that was handed in")
	}
	if c := cut(t, d, 0); !sameImage(c.Image(), [][]byte{filled(5), filled(5)}) {
		t.Error("the disk's beginning has kept a list that was handed in")
	}
}

func TestWhatIsAnsweredIsTheCallers(t *testing.T) {
	d, images, order := scripted(t, 2, 3)
	b, _ := d.Read(1)
	clear(b)
	_ = append(b, 1, 2, 3)
	image := d.Image()
	_ = append(image[0], filled(1)...)
	if !sameImage(image, images[3]) {
		t.Error("two blocks of one image lie in one another")
	}
	clear(image[0])
	clear(image)
	writes := d.Writes()
	clear(writes)
	if !sameImage(d.Image(), images[3]) || !slices.Equal(d.Writes(), order) {
		t.Error("what was answered is kept")
	}
	for k := range images {
		if !sameImage(cut(t, d, k).Image(), images[k]) {
			t.Errorf("Cut(%d)", k)
		}
	}
}
