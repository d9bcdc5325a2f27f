package drive

import (
	"bytes"
	"math"
	"math/rand"
	"slices"
	"strings"
	"testing"

	"sallyport/api"
)

// made is a drive of partitions that are right.
func made(t *testing.T, parts ...Part) *Drive {
	t.Helper()
	d, e := New(parts)
	if e != api.OK || d == nil {
		t.Fatalf("New(%v): %v, %d", parts, d, e)
	}
	return d
}

// notMade checks an error of New.
func notMade(t *testing.T, want api.Errno, parts ...Part) {
	t.Helper()
	d, e := New(parts)
	if e != want || d != nil {
		t.Fatalf("New(%v): %v, %d, not %d", parts, d, e, want)
	}
}

// holds checks all bytes of a partition, none of whose sectors is bad.
func holds(t *testing.T, d *Drive, name string, want []byte) {
	t.Helper()
	got, e := d.Read(name, 0, len(want))
	size, _ := d.Size(name)
	if e != api.OK || size != len(want) || !bytes.Equal(got, want) {
		t.Fatalf("%s, of %d bytes: %x, %d, not %x", name, size, got, e, want)
	}
}

// notRead checks an error of Read.
func notRead(t *testing.T, d *Drive, name string, off int, length int, want api.Errno) {
	t.Helper()
	b, e := d.Read(name, off, length)
	if e != want || len(b) != 0 {
		t.Fatalf("Read(%q, %d, %d): %x, %d, not %d", name, off, length, b, e, want)
	}
}

// wrote checks what Write answers.
func wrote(t *testing.T, d *Drive, name string, off int, b []byte, want api.Errno) {
	t.Helper()
	if e := d.Write(name, off, b); e != want {
		t.Fatalf("Write(%q, %d, %d bytes): %d, not %d", name, off, len(b), e, want)
	}
}

// turned checks what Turn answers.
func turned(t *testing.T, d *Drive, name string, off int, x []byte, want bool) {
	t.Helper()
	if got := d.Turn(name, off, x); got != want {
		t.Fatalf("Turn(%q, %d, %d bytes): %t", name, off, len(x), got)
	}
}

// marked checks what Bad answers.
func marked(t *testing.T, d *Drive, name string, sector int, on bool, want bool) {
	t.Helper()
	if got := d.Bad(name, sector, on); got != want {
		t.Fatalf("Bad(%q, %d, %t): %t", name, sector, on, got)
	}
}

// random are so many bytes, as the numbers of r have it, none of them 0.
func random(r *rand.Rand, size int) []byte {
	b := make([]byte, size)
	for i := range b {
		b[i] = byte(1 + r.Intn(255))
	}
	return b
}

// farPlaces are numbers that no stretch of a drive begins at or is as long as.
func farPlaces() []int {
	return []int{math.MaxInt, math.MaxInt - 1, math.MaxInt - 63, math.MaxInt - 64, math.MinInt, math.MinInt + 1, math.MinInt + 64,
		1 << 62, -1 << 62, 1 << 32, -1 << 32, 1<<32 + 64, api.MaxDisk + 64}
}

// absent are names that a drive with the partitions a and b hasn't.
func absent() []string {
	return []string{"", "c", "A", "a ", " a", "ab", "aa", "a\x00", "_a", strings.Repeat("a", 1000), "\xff"}
}

// P10.1

func TestNewNames(t *testing.T) {
	const letters = "abcdefghijklmnopqrstuvwxyz0123456789_"
	for n := range 60 {
		name := strings.Repeat(letters, 2)[:n]
		if n >= 1 && n <= 24 {
			made(t, Part{name, 64})
			continue
		}
		notMade(t, api.ErrPart, Part{name, 64})
	}
	notMade(t, api.ErrPart, Part{strings.Repeat("a", 1<<20), 64})
}

// Each rune alone, and at each end and amidst others.
func TestNewLetters(t *testing.T) {
	const letters = "abcdefghijklmnopqrstuvwxyz0123456789_"
	for c := range rune(0x2100) {
		for _, name := range []string{string(c), string(c) + "boot", "bo" + string(c) + "ot", "boot" + string(c)} {
			if strings.ContainsRune(letters, c) {
				made(t, Part{name, 64})
				continue
			}
			notMade(t, api.ErrPart, Part{name, 64})
		}
	}
	for b := 0x80; b <= 0xff; b++ {
		notMade(t, api.ErrPart, Part{string([]byte{byte(b)}), 64})
		notMade(t, api.ErrPart, Part{string([]byte{'a', byte(b), 'b'}), 64})
	}
	// What looks like letters, or has their lowest bits.
	for _, name := range []string{"ａ", "а", "é", "١", "\U00010061", "aš", "a\n", "a-b", "a.b", "a b", "\ufffd", strings.Repeat("é", 12)} {
		notMade(t, api.ErrPart, Part{name, 64})
	}
}

func TestNewSizes(t *testing.T) {
	for size := -300; size < 2000; size++ {
		if size >= 64 && size%64 == 0 {
			d := made(t, Part{"a", size})
			if n, e := d.Size("a"); e != api.OK || n != size {
				t.Fatalf("%d: %d, %d", size, n, e)
			}
			continue
		}
		notMade(t, api.ErrPart, Part{"a", size})
	}
	made(t, Part{"a", api.MaxDisk})
	made(t, Part{"a", api.MaxDisk - 64})
	for _, size := range append(farPlaces(), api.MaxDisk+1, api.MaxDisk-1, 2*api.MaxDisk, math.MinInt+128, 1<<63-64, 1<<32+64) {
		notMade(t, api.ErrPart, Part{"a", size})
	}
}

// some are so many partitions of a size.
func some(n int, size int) []Part {
	var parts []Part
	for i := range n {
		parts = append(parts, Part{"p" + strings.Repeat("x", i), size})
	}
	return parts
}

func TestNewCounts(t *testing.T) {
	for n := range 40 {
		if n > 16 {
			parts := make([]Part, n)
			for i := range parts {
				parts[i] = Part{string(rune('a'+i%26)) + string(rune('a'+i/26)), 64}
			}
			notMade(t, api.ErrPart, parts...)
			continue
		}
		d := made(t, some(n, 64)...)
		if got := d.Parts(); !slices.Equal(got, some(n, 64)) {
			t.Fatalf("%d: %v", n, got)
		}
	}
	if d, e := New([]Part{}); e != api.OK || len(d.Parts()) != 0 {
		t.Errorf("%v, %d", d, e)
	}
}

func TestNewTwins(t *testing.T) {
	for n := 2; n <= 16; n++ {
		for i := range n {
			for j := range i {
				parts := some(n, 64)
				parts[i].Name = parts[j].Name
				notMade(t, api.ErrPart, parts...)
				parts[i].Size = 128
				notMade(t, api.ErrPart, parts...)
			}
		}
	}
}

func TestNewTooGreat(t *testing.T) {
	for n := 1; n <= 16; n++ {
		parts := some(n, 64)
		parts[n/2].Size = api.MaxDisk - 64*(n-1)
		made(t, parts...)
		if n > 1 {
			parts[n/2].Size += 64
			notMade(t, api.ErrBig, parts...)
			notMade(t, api.ErrBig, some(n, api.MaxDisk)...)
		}
	}
	made(t, some(16, api.MaxDisk/16)...)
	made(t, some(2, api.MaxDisk/2)...)
}

func TestNewErrorsInTheirOrder(t *testing.T) {
	great := []Part{{"a", api.MaxDisk}, {"b", api.MaxDisk}}
	notMade(t, api.ErrBig, great...)
	for _, wrong := range []Part{{"", 64}, {"c", 0}, {"c", 63}, {"C", 64}, {"a", 64}, {"b", api.MaxDisk}, {"c", api.MaxDisk + 64}, {"c", -64}, {}} {
		notMade(t, api.ErrPart, great[0], great[1], wrong)
		notMade(t, api.ErrPart, great[0], wrong, great[1])
		notMade(t, api.ErrPart, wrong, great[0], great[1])
	}
	notMade(t, api.ErrPart, some(17, api.MaxDisk)...)
	notMade(t, api.ErrPart, make([]Part, 17)...)
}

// A new drive has noughts, no bad sector, nothing read, and its power; it isn't
// armed.
func TestNewDrive(t *testing.T) {
	parts := []Part{{"z", 64}, {"vbmeta_a", 640}, {"0", 128}, {"system_b", 4096}, {"_", 64}}
	d := made(t, parts...)
	if count, told := d.Reads(); count != 0 || told != 0 || d.Down() {
		t.Errorf("%d, %d, %t", count, told, d.Down())
	}
	if got := d.Parts(); !slices.Equal(got, parts) {
		t.Errorf("%v", got)
	}
	for _, p := range parts {
		if n, e := d.Size(p.Name); n != p.Size || e != api.OK {
			t.Errorf("%v: %d, %d", p, n, e)
		}
		holds(t, d, p.Name, make([]byte, p.Size))
	}
	for range 100 {
		wrote(t, d, "_", 0, []byte{1}, api.OK)
	}
}

func TestSizeAbsent(t *testing.T) {
	d := made(t, Part{"a", 64}, Part{"b", 128})
	for _, name := range absent() {
		if n, e := d.Size(name); n != 0 || e != api.ErrPart {
			t.Errorf("%q: %d, %d", name, n, e)
		}
	}
	if n, e := made(t).Size("a"); n != 0 || e != api.ErrPart {
		t.Errorf("%d, %d", n, e)
	}
	// The power has no say in it.
	d.Arm(0, nil)
	wrote(t, d, "a", 0, nil, api.ErrDown)
	if n, e := d.Size("b"); n != 128 || e != api.OK || !slices.Equal(d.Parts(), []Part{{"a", 64}, {"b", 128}}) {
		t.Errorf("%d, %d, %v", n, e, d.Parts())
	}
	if n, e := d.Size("c"); n != 0 || e != api.ErrPart {
		t.Errorf("%d, %d", n, e)
	}
}

// P10.2

// Each stretch in and about a partition, with each set of bad sectors.
func TestReadEachStretch(t *testing.T) {
	r := rand.New(rand.NewSource(1))
	const size = 192
	data := random(r, size)
	for set := range 8 {
		d := made(t, Part{"b", 256}, Part{"a", size})
		wrote(t, d, "a", 0, data, api.OK)
		for sector := range 3 {
			d.Bad("a", sector, set>>sector&1 == 1)
			d.Bad("b", sector, set>>sector&1 == 0)
		}
		count, told := 0, 0
		for off := -2; off < size+3; off++ {
			for length := -2; length < size+3; length++ {
				want := api.OK
				for at := off; at < off+length && off >= 0; at++ {
					if at < size && set>>(at/64)&1 == 1 {
						want = api.ErrRead
					}
				}
				if off < 0 || length < 0 || off+length > size {
					want = api.ErrEnd
				}
				if want != api.OK {
					notRead(t, d, "a", off, length, want)
					continue
				}
				count, told = count+1, told+length
				if b, e := d.Read("a", off, length); e != api.OK || !bytes.Equal(b, data[off:off+length]) {
					t.Fatalf("%d: Read(%d, %d): %x, %d", set, off, length, b, e)
				}
			}
		}
		if n, b := d.Reads(); n != count || b != told {
			t.Fatalf("%d: %d, %d, not %d, %d", set, n, b, count, told)
		}
	}
}

func TestReadFar(t *testing.T) {
	d := made(t, Part{"a", 128})
	for _, x := range farPlaces() {
		for _, y := range append(farPlaces(), 0, 1, 64, 128, -1, -64) {
			notRead(t, d, "a", x, y, api.ErrEnd)
			notRead(t, d, "a", y, x, api.ErrEnd)
		}
	}
	notRead(t, d, "a", 129, -1, api.ErrEnd)
	notRead(t, d, "a", -1, 1, api.ErrEnd)
}

func TestReadErrorsInTheirOrder(t *testing.T) {
	d := made(t, Part{"a", 128}, Part{"b", 64})
	marked(t, d, "a", 1, true, true)
	for _, name := range absent() {
		notRead(t, d, name, 0, 1, api.ErrPart)
		notRead(t, d, name, 64, 65, api.ErrPart)
		notRead(t, d, name, -1, -1, api.ErrPart)
	}
	notRead(t, d, "a", 64, 65, api.ErrEnd)
	notRead(t, d, "a", 64, 64, api.ErrRead)
	d.Arm(0, nil)
	wrote(t, d, "b", 0, []byte{1}, api.ErrDown)
	notRead(t, d, "c", -1, -1, api.ErrDown)
	notRead(t, d, "a", 64, 65, api.ErrDown)
	notRead(t, d, "a", 64, 64, api.ErrDown)
	notRead(t, d, "a", 0, 64, api.ErrDown)
	notRead(t, d, "a", 0, 0, api.ErrDown)
	if n, b := d.Reads(); n != 0 || b != 0 {
		t.Errorf("%d, %d", n, b)
	}
}

// A whole drive, and the last sector of it.
func TestReadGreat(t *testing.T) {
	r := rand.New(rand.NewSource(2))
	d := made(t, Part{"a", api.MaxDisk})
	data := random(r, api.MaxDisk)
	wrote(t, d, "a", 0, data, api.OK)
	holds(t, d, "a", data)
	marked(t, d, "a", api.MaxDisk/64-1, true, true)
	notRead(t, d, "a", 0, api.MaxDisk, api.ErrRead)
	notRead(t, d, "a", api.MaxDisk-1, 1, api.ErrRead)
	if b, e := d.Read("a", 1, api.MaxDisk-65); e != api.OK || !bytes.Equal(b, data[1:api.MaxDisk-64]) {
		t.Errorf("%d bytes, %d", len(b), e)
	}
	if n, b := d.Reads(); n != 2 || b != 2*api.MaxDisk-65 {
		t.Errorf("%d, %d", n, b)
	}
}

// Only what Read answers OK is counted; the power and the rest have no say.
func TestReads(t *testing.T) {
	d := made(t, Part{"a", 128}, Part{"b", 64})
	counted := func(count int, told int) {
		t.Helper()
		if n, b := d.Reads(); n != count || b != told {
			t.Fatalf("%d, %d, not %d, %d", n, b, count, told)
		}
	}
	d.Read("a", 3, 100)
	counted(1, 100)
	d.Read("b", 0, 0)
	counted(2, 100)
	d.Read("b", 64, 0)
	counted(3, 100)
	d.Read("b", 0, 65)
	d.Read("c", 0, 1)
	d.Size("a")
	d.Parts()
	d.Write("a", 0, []byte("abc"))
	d.Turn("a", 0, []byte("abc"))
	d.Bad("a", 0, true)
	d.Read("a", 0, 1)
	counted(3, 100)
	d.Arm(0, nil)
	d.Write("a", 0, []byte("abc"))
	d.Read("b", 0, 1)
	counted(3, 100)
	d.Boot()
	counted(3, 100)
	d.Read("b", 0, 64)
	counted(4, 164)
}

// So many calls can't be made: the counts are laid ahead of the last ones.
func TestReadsUpTo(t *testing.T) {
	d := made(t, Part{"a", 128})
	d.count, d.told = 1<<60-1, 1<<60-100
	d.Read("a", 0, 99)
	if n, b := d.Reads(); n != 1<<60 || b != 1<<60-1 {
		t.Errorf("%d, %d", n, b)
	}
	d.Read("a", 0, 99)
	d.Read("a", 0, 1)
	if n, b := d.Reads(); n != 1<<60 || b != 1<<60 {
		t.Errorf("%d, %d", n, b)
	}
	d.count, d.told = 0, 1<<60
	d.Read("a", 0, 1)
	if n, b := d.Reads(); n != 1 || b != 1<<60 {
		t.Errorf("%d, %d", n, b)
	}
}

// P10.3

// Each stretch in and about a partition.
func TestWriteEachStretch(t *testing.T) {
	r := rand.New(rand.NewSource(3))
	const size = 128
	d := made(t, Part{"a", size}, Part{"b", 64})
	want, other := make([]byte, size), random(r, 64)
	wrote(t, d, "b", 0, other, api.OK)
	for off := -2; off < size+3; off++ {
		for length := range size + 4 {
			b := random(r, length)
			if off < 0 || off+length > size {
				wrote(t, d, "a", off, b, api.ErrEnd)
			} else {
				wrote(t, d, "a", off, b, api.OK)
				copy(want[off:], b)
			}
			holds(t, d, "a", want)
		}
	}
	holds(t, d, "b", other)
}

func TestWriteFar(t *testing.T) {
	d := made(t, Part{"a", 128})
	for _, off := range farPlaces() {
		for _, b := range [][]byte{nil, {}, {1}, make([]byte, 64), make([]byte, 128)} {
			wrote(t, d, "a", off, b, api.ErrEnd)
		}
	}
	wrote(t, d, "a", 0, make([]byte, 2*api.MaxDisk), api.ErrEnd)
	holds(t, d, "a", make([]byte, 128))
}

func TestWriteErrorsInTheirOrder(t *testing.T) {
	d := made(t, Part{"a", 64}, Part{"b", 64})
	for _, name := range absent() {
		wrote(t, d, name, 0, nil, api.ErrPart)
		wrote(t, d, name, -1, []byte{1}, api.ErrPart)
	}
	wrote(t, d, "a", 64, []byte{1}, api.ErrEnd)
	d.Arm(0, []bool{true})
	wrote(t, d, "a", 0, []byte{1}, api.ErrDown)
	wrote(t, d, "c", -1, []byte{1}, api.ErrDown)
	wrote(t, d, "a", 64, []byte{1}, api.ErrDown)
	wrote(t, d, "a", 1, []byte{1}, api.ErrDown)
	d.Boot()
	holds(t, d, "a", append([]byte{1}, make([]byte, 63)...))
	holds(t, d, "b", make([]byte, 64))
}

// Bad sectors are written, and stay bad.
func TestWriteBadSectors(t *testing.T) {
	r := rand.New(rand.NewSource(4))
	d := made(t, Part{"a", 256})
	marked(t, d, "a", 1, true, true)
	marked(t, d, "a", 2, true, true)
	data := random(r, 256)
	wrote(t, d, "a", 0, data, api.OK)
	for at := range 256 {
		if at/64 == 1 || at/64 == 2 {
			notRead(t, d, "a", at, 1, api.ErrRead)
			continue
		}
		if b, e := d.Read("a", at, 1); e != api.OK || b[0] != data[at] {
			t.Fatalf("%d: %x, %d", at, b, e)
		}
	}
	wrote(t, d, "a", 70, []byte("abc"), api.OK)
	copy(data[70:], "abc")
	notRead(t, d, "a", 70, 3, api.ErrRead)
	marked(t, d, "a", 1, false, true)
	if b, e := d.Read("a", 0, 128); e != api.OK || !bytes.Equal(b, data[:128]) {
		t.Errorf("%x, %d", b, e)
	}
	notRead(t, d, "a", 0, 129, api.ErrRead)
	marked(t, d, "a", 2, false, true)
	holds(t, d, "a", data)
}

// P10.4

func TestTurnEachStretch(t *testing.T) {
	r := rand.New(rand.NewSource(5))
	const size = 128
	d := made(t, Part{"a", size}, Part{"b", 64})
	want, other := random(r, size), random(r, 64)
	wrote(t, d, "a", 0, want, api.OK)
	wrote(t, d, "b", 0, other, api.OK)
	for off := -2; off < size+3; off++ {
		for length := range size + 4 {
			x := make([]byte, length)
			r.Read(x)
			within := off >= 0 && off+length <= size
			turned(t, d, "a", off, x, within)
			for i := range x {
				if within {
					want[off+i] ^= x[i]
				}
			}
			holds(t, d, "a", want)
		}
	}
	holds(t, d, "b", other)
}

func TestTurnWrong(t *testing.T) {
	d := made(t, Part{"a", 128}, Part{"b", 64})
	for _, off := range farPlaces() {
		for _, x := range [][]byte{nil, {}, {1}, make([]byte, 64), make([]byte, 128)} {
			turned(t, d, "a", off, x, false)
		}
	}
	for _, name := range absent() {
		turned(t, d, name, 0, nil, false)
		turned(t, d, name, 0, []byte{1}, false)
	}
	turned(t, d, "b", 64, []byte{1}, false)
	turned(t, d, "b", 64, nil, true)
	turned(t, d, "b", 65, nil, false)
	holds(t, d, "a", make([]byte, 128))
	holds(t, d, "b", make([]byte, 64))
}

// The power has no say, and no sector is spared, nor healed; no write is
// counted.
func TestTurnWhateverTheDriveIs(t *testing.T) {
	d := made(t, Part{"a", 128})
	marked(t, d, "a", 0, true, true)
	d.Arm(1, nil)
	for range 5 {
		turned(t, d, "a", 0, []byte{1}, true)
	}
	wrote(t, d, "a", 1, []byte{7}, api.OK)
	wrote(t, d, "a", 1, []byte{8}, api.ErrDown)
	turned(t, d, "a", 2, []byte{9}, true)
	turned(t, d, "a", 127, []byte{9, 9}, false)
	turned(t, d, "c", 0, nil, false)
	if !d.Down() {
		t.Error("up")
	}
	d.Boot()
	notRead(t, d, "a", 0, 1, api.ErrRead)
	marked(t, d, "a", 0, false, true)
	holds(t, d, "a", append([]byte{1, 7, 9}, make([]byte, 125)...))
}

func TestBad(t *testing.T) {
	d := made(t, Part{"a", 64 * 5}, Part{"b", 64})
	for sector := -3; sector < 9; sector++ {
		for _, on := range []bool{true, true, false, false} {
			marked(t, d, "a", sector, on, sector >= 0 && sector < 5)
			for other := range 5 {
				if other == sector && on {
					notRead(t, d, "a", 64*other, 1, api.ErrRead)
					notRead(t, d, "a", 64*other+63, 1, api.ErrRead)
				} else if _, e := d.Read("a", 64*other, 64); e != api.OK {
					t.Fatalf("%d, %t: %d: %d", sector, on, other, e)
				}
			}
			if _, e := d.Read("b", 0, 64); e != api.OK {
				t.Fatal(e)
			}
		}
	}
	for _, sector := range append(farPlaces(), -1, 5, 64, 320, 1<<58, 1<<58+1, -1<<58, 1<<32) {
		marked(t, d, "a", sector, true, false)
		marked(t, d, "a", sector, false, false)
	}
	for _, name := range absent() {
		marked(t, d, name, 0, true, false)
		marked(t, d, name, 0, false, false)
	}
	holds(t, d, "a", make([]byte, 320))
}

// Sectors go bad and well again while the power is gone, and what they hold
// stays.
func TestBadWhateverTheDriveIs(t *testing.T) {
	d := made(t, Part{"a", 128})
	data := bytes.Repeat([]byte{5}, 128)
	wrote(t, d, "a", 0, data, api.OK)
	marked(t, d, "a", 1, true, true)
	d.Arm(0, nil)
	for range 5 {
		marked(t, d, "a", 1, true, true)
	}
	wrote(t, d, "a", 0, data, api.ErrDown)
	marked(t, d, "a", 0, true, true)
	marked(t, d, "a", 1, false, true)
	marked(t, d, "a", 2, true, false)
	d.Boot()
	notRead(t, d, "a", 0, 64, api.ErrRead)
	if b, e := d.Read("a", 64, 64); e != api.OK || !bytes.Equal(b, data[64:]) {
		t.Errorf("%x, %d", b, e)
	}
	marked(t, d, "a", 0, false, true)
	holds(t, d, "a", data)
}

// P10.5

// keeps are all lists of so many bools.
func keeps(n int) [][]bool {
	all := [][]bool{nil}
	for i := range n {
		all = nil
		for set := range 1 << (i + 1) {
			var keep []bool
			for k := range i + 1 {
				keep = append(keep, set>>k&1 == 1)
			}
			all = append(all, keep)
		}
	}
	return all
}

// Each torn stretch of a partition, with each list of sectors that are kept.
func TestTornEachStretch(t *testing.T) {
	r := rand.New(rand.NewSource(6))
	const size = 192
	old := random(r, size)
	d := made(t, Part{"a", size}, Part{"b", size})
	wrote(t, d, "b", 0, old, api.OK)
	for n := range 6 {
		for _, keep := range keeps(n) {
			for off := 0; off <= size; off += 1 + r.Intn(9) {
				for length := 0; off+length <= size; length += 1 + r.Intn(9) {
					wrote(t, d, "a", 0, old, api.OK)
					d.Arm(0, keep)
					b := random(r, length)
					wrote(t, d, "a", off, b, api.ErrDown)
					if !d.Down() {
						t.Fatal("up")
					}
					d.Boot()
					want := bytes.Clone(old)
					for i := range b {
						if k := (off+i)/64 - off/64; k < len(keep) && keep[k] {
							want[off+i] = b[i]
						}
					}
					holds(t, d, "a", want)
				}
			}
		}
	}
	holds(t, d, "b", old)
}

// The edges of stretches that end or begin where sectors do.
func TestTornAtSectors(t *testing.T) {
	const size = 256
	for _, off := range []int{0, 1, 63, 64, 65, 127, 128, 129, 192, 255} {
		for _, end := range []int{1, 63, 64, 65, 127, 128, 129, 192, 193, 255, 256} {
			for _, keep := range keeps(5) {
				if end <= off {
					continue
				}
				d := made(t, Part{"a", size})
				d.Arm(0, keep)
				wrote(t, d, "a", off, bytes.Repeat([]byte{1}, end-off), api.ErrDown)
				d.Boot()
				b, e := d.Read("a", 0, size)
				for at := range b {
					k := at/64 - off/64
					if kept := at >= off && at < end && keep[k]; e != api.OK || kept != (b[at] == 1) {
						t.Fatalf("%d to %d, %v: at %d %d", off, end, keep, at, b[at])
					}
				}
			}
		}
	}
}

// The document's own example.
func TestTornExample(t *testing.T) {
	d := made(t, Part{"a", 128})
	d.Arm(0, []bool{false, true})
	wrote(t, d, "a", 0, bytes.Repeat([]byte{0xff}, 128), api.ErrDown)
	d.Boot()
	holds(t, d, "a", append(make([]byte, 64), bytes.Repeat([]byte{0xff}, 64)...))
}

// Longer lists than there are sectors, and a write of all sectors there can be.
func TestTornGreat(t *testing.T) {
	d := made(t, Part{"a", api.MaxDisk})
	keep := make([]bool, api.MaxDisk/64+1000)
	want := make([]byte, api.MaxDisk)
	for k := range keep {
		keep[k] = k%3 != 1 || k >= api.MaxDisk/64-1
	}
	for at := range want {
		if keep[at/64] {
			want[at] = 1
		}
	}
	d.Arm(0, keep)
	wrote(t, d, "a", 0, bytes.Repeat([]byte{1}, api.MaxDisk), api.ErrDown)
	d.Boot()
	holds(t, d, "a", want)
	d.Arm(0, keep)
	wrote(t, d, "a", api.MaxDisk-1, []byte{9}, api.ErrDown)
	d.Boot()
	want[api.MaxDisk-1] = 9
	holds(t, d, "a", want)
}

// So many writes are done, and the next one is torn.
func TestArmCounts(t *testing.T) {
	for n := range 20 {
		d := made(t, Part{"a", 64}, Part{"b", 64})
		d.Arm(n, []bool{true})
		if d.Down() {
			t.Fatal("down")
		}
		for i := range n {
			wrote(t, d, []string{"a", "b"}[i%2], i, []byte{byte(i + 1)}, api.OK)
			if d.Down() {
				t.Fatalf("%d: down", i)
			}
		}
		wrote(t, d, "a", 63, []byte{99}, api.ErrDown)
		for range 3 {
			wrote(t, d, "a", 62, []byte{88}, api.ErrDown)
			wrote(t, d, "c", 62, []byte{88}, api.ErrDown)
		}
		d.Boot()
		for range 30 {
			wrote(t, d, "b", 62, []byte{77}, api.OK)
		}
		a, _ := d.Read("a", 0, 64)
		b, _ := d.Read("b", 0, 64)
		if a[63] != 99 || a[62] != 0 || b[62] != 77 {
			t.Fatalf("%d: %x, %x", n, a, b)
		}
		for i := range n {
			if got := [][]byte{a, b}[i%2][i]; got != byte(i+1) {
				t.Fatalf("%d: %d: %d", n, i, got)
			}
		}
	}
}

// Only writes that would be answered OK are counted: none that is refused, and
// none of the other calls; but those of no bytes are.
func TestArmCountsWhatIsDone(t *testing.T) {
	d := made(t, Part{"a", 64})
	d.Arm(2, []bool{true})
	refused := func() {
		t.Helper()
		wrote(t, d, "c", 0, []byte{1}, api.ErrPart)
		wrote(t, d, "a", 64, []byte{1}, api.ErrEnd)
		wrote(t, d, "a", -1, nil, api.ErrEnd)
		d.Read("a", 0, 64)
		d.Turn("a", 5, []byte{0})
		d.Bad("a", 0, false)
		d.Size("a")
		d.Parts()
		d.Reads()
	}
	refused()
	wrote(t, d, "a", 64, nil, api.OK)
	refused()
	wrote(t, d, "a", 0, []byte{1}, api.OK)
	refused()
	if d.Down() {
		t.Fatal("down")
	}
	wrote(t, d, "a", 1, []byte{2}, api.ErrDown)
	d.Boot()
	// A torn write of no bytes writes none.
	for _, off := range []int{0, 1, 63, 64} {
		d.Arm(0, []bool{true, true, true})
		wrote(t, d, "a", off, nil, api.ErrDown)
		if !d.Down() {
			t.Fatal("up")
		}
		notRead(t, d, "a", 0, 1, api.ErrDown)
		d.Boot()
		holds(t, d, "a", append([]byte{1, 2}, make([]byte, 62)...))
	}
}

func TestArmBelowNought(t *testing.T) {
	for _, n := range []int{-1, -2, -64, math.MinInt, math.MinInt + 1} {
		for _, armed := range []int{0, 1, 5, math.MaxInt} {
			d := made(t, Part{"a", 64})
			d.Arm(armed, []bool{true})
			d.Arm(n, []bool{true})
			for i := range 64 {
				wrote(t, d, "a", i, []byte{5}, api.OK)
			}
			if d.Down() {
				t.Fatal("down")
			}
			holds(t, d, "a", bytes.Repeat([]byte{5}, 64))
		}
	}
}

// The last call of Arm holds, with its own list.
func TestArmAgain(t *testing.T) {
	d := made(t, Part{"a", 128})
	d.Arm(0, []bool{true, true})
	d.Arm(1, []bool{false, true})
	wrote(t, d, "a", 0, bytes.Repeat([]byte{1}, 128), api.OK)
	d.Arm(1, nil)
	wrote(t, d, "a", 0, bytes.Repeat([]byte{2}, 128), api.OK)
	wrote(t, d, "a", 0, bytes.Repeat([]byte{3}, 128), api.ErrDown)
	d.Boot()
	holds(t, d, "a", bytes.Repeat([]byte{2}, 128))
	d.Arm(math.MaxInt, nil)
	for range 100 {
		wrote(t, d, "a", 0, nil, api.OK)
	}
	d.Arm(0, []bool{true})
	wrote(t, d, "a", 0, bytes.Repeat([]byte{4}, 128), api.ErrDown)
	d.Boot()
	holds(t, d, "a", append(bytes.Repeat([]byte{4}, 64), bytes.Repeat([]byte{2}, 64)...))
}

// Arming doesn't bring the power back, nor outlives it.
func TestArmWhileDown(t *testing.T) {
	for _, n := range []int{-1, 0, 3} {
		d := made(t, Part{"a", 64})
		d.Arm(0, nil)
		wrote(t, d, "a", 0, []byte{1}, api.ErrDown)
		d.Arm(n, []bool{true})
		if !d.Down() {
			t.Fatal("up")
		}
		wrote(t, d, "a", 0, []byte{1}, api.ErrDown)
		notRead(t, d, "a", 0, 64, api.ErrDown)
		d.Boot()
		if d.Down() {
			t.Fatal("down")
		}
		holds(t, d, "a", make([]byte, 64))
		for range 10 {
			wrote(t, d, "a", 0, []byte{1}, api.OK)
		}
	}
}

// A drive that isn't down is booted too: it isn't armed any more.
func TestBoot(t *testing.T) {
	d := made(t, Part{"a", 128})
	d.Boot()
	wrote(t, d, "a", 0, []byte("abc"), api.OK)
	marked(t, d, "a", 1, true, true)
	d.Read("a", 0, 10)
	for _, n := range []int{0, 1, 5} {
		d.Arm(n, []bool{true, true})
		d.Boot()
		for range 20 {
			wrote(t, d, "a", 0, []byte("abc"), api.OK)
		}
	}
	// What is bad and what was counted stays.
	notRead(t, d, "a", 64, 1, api.ErrRead)
	if n, b := d.Reads(); n != 1 || b != 10 || d.Down() {
		t.Errorf("%d, %d, %t", n, b, d.Down())
	}
	if b, e := d.Read("a", 0, 4); e != api.OK || string(b) != "abc\x00" {
		t.Errorf("%x, %d", b, e)
	}
}

// A torn write of bad sectors is there when they are good again.
func TestTornBadSectors(t *testing.T) {
	d := made(t, Part{"a", 192})
	marked(t, d, "a", 0, true, true)
	marked(t, d, "a", 1, true, true)
	d.Arm(0, []bool{true, false, true})
	wrote(t, d, "a", 0, bytes.Repeat([]byte{1}, 192), api.ErrDown)
	d.Boot()
	notRead(t, d, "a", 0, 1, api.ErrRead)
	notRead(t, d, "a", 64, 1, api.ErrRead)
	marked(t, d, "a", 0, false, true)
	marked(t, d, "a", 1, false, true)
	holds(t, d, "a", slices.Concat(bytes.Repeat([]byte{1}, 64), make([]byte, 64), bytes.Repeat([]byte{1}, 64)))
}

// The whole, against a drive reckoned byte by byte.

type modelByte struct {
	b   byte
	bad bool
}

type model struct {
	parts       map[string][]modelByte
	armed, down bool
	left        int
	keep        []bool
	count, told int
}

func (m *model) fault(name string, off int, length int) api.Errno {
	p, found := m.parts[name]
	if !found {
		return api.ErrPart
	}
	if off < 0 || length < 0 || off > len(p) || length > len(p)-off {
		return api.ErrEnd
	}
	return api.OK
}

func (m *model) read(name string, off int, length int) ([]byte, api.Errno) {
	if m.down {
		return nil, api.ErrDown
	}
	if e := m.fault(name, off, length); e != api.OK {
		return nil, e
	}
	var b []byte
	for i := range length {
		x := m.parts[name][off+i]
		if x.bad {
			return nil, api.ErrRead
		}
		b = append(b, x.b)
	}
	m.count, m.told = m.count+1, m.told+length
	return b, api.OK
}

func (m *model) write(name string, off int, b []byte) api.Errno {
	if m.down {
		return api.ErrDown
	}
	if e := m.fault(name, off, len(b)); e != api.OK {
		return e
	}
	torn := m.armed && m.left == 0
	for i, x := range b {
		k := (off+i)/64 - off/64
		if !torn || k < len(m.keep) && m.keep[k] {
			m.parts[name][off+i].b = x
		}
	}
	if torn {
		m.down = true
		return api.ErrDown
	}
	m.left--
	return api.OK
}

func (m *model) turn(name string, off int, x []byte) bool {
	if m.fault(name, off, len(x)) != api.OK {
		return false
	}
	for i := range x {
		m.parts[name][off+i].b ^= x[i]
	}
	return true
}

func (m *model) mark(name string, sector int, on bool) bool {
	found := false
	for at := range m.parts[name] {
		if at/64 == sector {
			m.parts[name][at].bad, found = on, true
		}
	}
	return found
}

// step does one thing to both, and checks that they answer alike.
func step(t *testing.T, r *rand.Rand, d *Drive, m *model) {
	t.Helper()
	name := []string{"a", "boot_a", "misc", "none"}[r.Intn(4)]
	off, length := r.Intn(330)-5, r.Intn(200)
	switch r.Intn(12) {
	case 0, 1, 2:
		if r.Intn(2) == 0 {
			length = r.Intn(10) - 1
		}
		got, e := d.Read(name, off, length)
		want, f := m.read(name, off, length)
		if e != f || !bytes.Equal(got, want) {
			t.Fatalf("Read(%q, %d, %d): %x, %d, not %x, %d", name, off, length, got, e, want, f)
		}
	case 3, 4, 5:
		b := random(r, length)
		wrote(t, d, name, off, b, m.write(name, off, b))
	case 6:
		x := random(r, length)
		turned(t, d, name, off, x, m.turn(name, off, x))
	case 7, 8:
		sector, on := r.Intn(7)-1, r.Intn(3) == 0
		marked(t, d, name, sector, on, m.mark(name, sector, on))
	case 9:
		all := keeps(r.Intn(6))
		n, keep := r.Intn(8)-1, all[r.Intn(len(all))]
		d.Arm(n, keep)
		m.armed, m.left, m.keep = n >= 0, n, keep
	default:
		if m.down || r.Intn(4) == 0 {
			d.Boot()
			m.armed, m.down = false, false
		}
	}
	n, b := d.Reads()
	if n != m.count || b != m.told || d.Down() != m.down {
		t.Fatalf("%d, %d, %t, not %d, %d, %t", n, b, d.Down(), m.count, m.told, m.down)
	}
}

func TestAgainstTheModel(t *testing.T) {
	r := rand.New(rand.NewSource(7))
	for range 200 {
		parts := []Part{{"a", 128}, {"boot_a", 320}, {"misc", 64}}
		d, m := made(t, parts...), &model{parts: map[string][]modelByte{}}
		for _, p := range parts {
			m.parts[p.Name] = make([]modelByte, p.Size)
		}
		for range 500 {
			step(t, r, d, m)
		}
		d.Boot()
		for name, all := range m.parts {
			want := make([]byte, len(all))
			for at, x := range all {
				want[at] = x.b
				d.Bad(name, at/64, false)
			}
			holds(t, d, name, want)
		}
	}
}

// The rule of memory

// roomy are the bytes of b with spare room behind them, filled with 0xEE.
func roomy(b []byte) []byte {
	all := append(bytes.Clone(b), bytes.Repeat([]byte{0xEE}, 50)...)
	return all[:len(b)]
}

// spared checks that a list and its spare room are as roomy made them.
func spared(t *testing.T, b []byte, want []byte) {
	t.Helper()
	if !bytes.Equal(b, want) || !bytes.Equal(b[len(b):cap(b)][:50], bytes.Repeat([]byte{0xEE}, 50)) {
		t.Errorf("%x, not %x", b[:cap(b)], want)
	}
}

// spoil changes all of a list, its spare room too.
func spoil(b []byte) {
	b = b[:cap(b)]
	for i := range b {
		b[i] ^= 0xA5
	}
}

func TestPartsAreNotKept(t *testing.T) {
	parts := append(make([]Part, 0, 10), Part{"a", 64}, Part{"b", 128})
	room := parts[:10]
	room[9] = Part{"spare", 1}
	d := made(t, parts...)
	if !slices.Equal(parts, []Part{{"a", 64}, {"b", 128}}) || room[2] != (Part{}) || room[9] != (Part{"spare", 1}) {
		t.Errorf("%v", room)
	}
	for i := range room {
		room[i] = Part{"x", 640}
	}
	for range 2 {
		got := d.Parts()
		if !slices.Equal(got, []Part{{"a", 64}, {"b", 128}}) {
			t.Fatalf("%v", got)
		}
		got = got[:cap(got)]
		for i := range got {
			got[i] = Part{"y", 640}
		}
	}
	if n, e := d.Size("a"); n != 64 || e != api.OK {
		t.Errorf("%d, %d", n, e)
	}
	holds(t, d, "b", make([]byte, 128))
}

func TestBytesAreNotKept(t *testing.T) {
	r := rand.New(rand.NewSource(8))
	want := random(r, 128)
	b := roomy(want)
	d := made(t, Part{"a", 192})
	wrote(t, d, "a", 0, b, api.OK)
	spared(t, b, want)
	spoil(b)
	whole := append(bytes.Clone(want), make([]byte, 64)...)
	holds(t, d, "a", whole)
	// What is told is the caller's own, each time.
	first, _ := d.Read("a", 0, 192)
	second, _ := d.Read("a", 0, 192)
	part, _ := d.Read("a", 10, 20)
	none, _ := d.Read("a", 30, 0)
	spoil(first)
	spoil(part)
	spoil(none)
	if !bytes.Equal(second, whole) {
		t.Errorf("%x", second)
	}
	holds(t, d, "a", whole)
	// Nor does it change with the drive.
	wrote(t, d, "a", 0, make([]byte, 192), api.OK)
	if !bytes.Equal(second, whole) {
		t.Errorf("%x", second)
	}
	x := roomy(want)
	turned(t, d, "a", 0, x, true)
	spared(t, x, want)
	spoil(x)
	holds(t, d, "a", whole)
	torn := roomy(want)
	wrote(t, d, "a", 0, make([]byte, 192), api.OK)
	d.Arm(0, []bool{true, true})
	wrote(t, d, "a", 0, torn, api.ErrDown)
	spared(t, torn, want)
	spoil(torn)
	d.Boot()
	holds(t, d, "a", whole)
}

func TestKeepIsNotKept(t *testing.T) {
	d := made(t, Part{"a", 192})
	keep := append(make([]bool, 0, 8), true, false)
	d.Arm(0, keep)
	keep = keep[:8]
	for i := range keep {
		if keep[i] != (i == 0) {
			t.Fatalf("%v", keep)
		}
		keep[i] = !keep[i]
	}
	wrote(t, d, "a", 0, bytes.Repeat([]byte{1}, 192), api.ErrDown)
	d.Boot()
	holds(t, d, "a", append(bytes.Repeat([]byte{1}, 64), make([]byte, 128)...))
	if !slices.Equal(keep, []bool{false, true, true, true, true, true, true, true}) {
		t.Errorf("%v", keep)
	}
}

// Two drives of the same partitions have nothing in common.
func TestDrivesApart(t *testing.T) {
	parts := []Part{{"a", 64}, {"b", 64}}
	d, other := made(t, parts...), made(t, parts...)
	d.Arm(0, []bool{true})
	d.Bad("b", 0, true)
	wrote(t, d, "a", 0, []byte{1}, api.ErrDown)
	if other.Down() {
		t.Error("down")
	}
	wrote(t, other, "b", 0, []byte{2}, api.OK)
	holds(t, other, "a", make([]byte, 64))
	holds(t, other, "b", append([]byte{2}, make([]byte, 63)...))
	d.Boot()
	d.Bad("b", 0, false)
	holds(t, d, "b", make([]byte, 64))
	if n, b := d.Reads(); n != 1 || b != 64 {
		t.Errorf("%d, %d", n, b)
	}
}

// The same calls answer the same, however the maps are laid.
func TestSameCallsSameAnswers(t *testing.T) {
	run := func() (all []byte) {
		r := rand.New(rand.NewSource(9))
		d := made(t, some(16, 128)...)
		for range 300 {
			p := d.Parts()[r.Intn(16)]
			d.Write(p.Name, r.Intn(128), random(r, r.Intn(64)))
			d.Bad(p.Name, r.Intn(2), r.Intn(2) == 0)
			b, e := d.Read(p.Name, r.Intn(100), r.Intn(64))
			all = append(append(all, byte(e)), b...)
		}
		return all
	}
	first := run()
	for range 5 {
		if !bytes.Equal(run(), first) {
			t.Fatal("unlike")
		}
	}
}
