package tail

import (
	"bytes"
	"encoding/binary"
	"math"
	"math/rand"
	"testing"

	"sallyport/api"
	"sallyport/drive"
)

func times(n int, x byte) []byte { return bytes.Repeat([]byte{x}, n) }

// filled are so many bytes, no two neighbours alike and none of them 0.
func filled(n int) []byte {
	b := make([]byte, n)
	for i := range b {
		b[i] = byte(1 + i%251)
	}
	return b
}

// laid are a tail's bytes, whether it is right or not, written by the library.
func laid(data uint64, off uint64, size uint64) []byte {
	b := []byte{'A', 'V', 'B', 'f', 0, 0, 0, 1}
	for _, n := range []uint64{data, off, size} {
		b = binary.BigEndian.AppendUint64(b, n)
	}
	return append(b, make([]byte, 32)...)
}

func laidOf(x Tail) []byte { return laid(uint64(x.Data), uint64(x.Off), uint64(x.Size)) }

// isRight checks that a tail is right, and is written and read so.
func isRight(t *testing.T, x Tail) {
	t.Helper()
	b, e := Encode(x)
	if !x.Right() || e != api.OK || !bytes.Equal(b, laidOf(x)) {
		t.Fatalf("%v: %t, %x, %d", x, x.Right(), b, e)
	}
	if y, e := Parse(b); y != x || e != api.OK {
		t.Fatalf("%v: %v, %d", x, y, e)
	}
}

// isWrong checks that a tail isn't right, and is neither written nor read.
func isWrong(t *testing.T, x Tail) {
	t.Helper()
	b, e := Encode(x)
	if x.Right() || e != api.ErrForm || len(b) != 0 {
		t.Fatalf("%v: %t, %x, %d", x, x.Right(), b, e)
	}
	// A number below 0 is one of 2^63 and more in bytes.
	parseFails(t, laidOf(x), api.ErrForm)
}

func parseFails(t *testing.T, b []byte, want api.Errno) {
	t.Helper()
	if x, e := Parse(b); x != (Tail{}) || e != want {
		t.Fatalf("%x: %v, %d, not %d", b, x, e, want)
	}
}

// farNumbers are numbers beyond all limits.
func farNumbers() []int {
	return []int{math.MaxInt, math.MaxInt - 1, math.MaxInt - 63, math.MinInt, math.MinInt + 1, math.MinInt + 64, -1, -63, -64, -65,
		1 << 62, -1 << 62, 1<<62 + 64, 1 << 48, 1<<40 + 64, -1 << 40}
}

// made is a drive of partitions p, q and so on, of these sizes, full of ee.
func made(t *testing.T, sizes ...int) *drive.Drive {
	t.Helper()
	var parts []drive.Part
	for i, size := range sizes {
		parts = append(parts, drive.Part{Name: string(rune('p' + i)), Size: size})
	}
	d, e := drive.New(parts)
	if e != api.OK {
		t.Fatal(sizes, e)
	}
	for _, p := range parts {
		d.Write(p.Name, 0, times(p.Size, 0xee))
	}
	return d
}

// all are a partition's bytes, whose sectors are good.
func all(t *testing.T, d *drive.Drive, name string) []byte {
	t.Helper()
	size, _ := d.Size(name)
	b, e := d.Read(name, 0, size)
	if e != api.OK {
		t.Fatal(name, e)
	}
	return b
}

// write writes to a drive whose power stays.
func write(t *testing.T, d *drive.Drive, name string, off int, b []byte) {
	t.Helper()
	if e := d.Write(name, off, b); e != api.OK {
		t.Fatal(name, off, e)
	}
}

func loads(t *testing.T, d *drive.Drive, name string, raw []byte, x Tail) {
	t.Helper()
	got, y, e := Load(d, name)
	if e != api.OK || y != x || !bytes.Equal(got, raw) {
		t.Fatalf("%s: %d bytes, %v, %d, not %v", name, len(got), y, e, x)
	}
}

func loadFails(t *testing.T, d *drive.Drive, name string, want api.Errno) {
	t.Helper()
	raw, x, e := Load(d, name)
	if e != want || x != (Tail{}) || len(raw) != 0 {
		t.Fatalf("%q: %d bytes, %v, %d, not %d", name, len(raw), x, e, want)
	}
}

func stores(t *testing.T, d *drive.Drive, name string, data int, raw []byte, want api.Errno) {
	t.Helper()
	if e := Store(d, name, data, raw); e != want {
		t.Fatalf("%q, %d, %d bytes: %d, not %d", name, data, len(raw), e, want)
	}
}

// P14.1

func TestRightDataAndOff(t *testing.T) {
	for off := -200; off <= 400; off++ {
		for data := -3; data <= 400; data++ {
			x := Tail{data, off, 1}
			if data >= 0 && off >= data && off%64 == 0 {
				isRight(t, x)
				continue
			}
			isWrong(t, x)
		}
	}
}

func TestTheGreatestDataAndOff(t *testing.T) {
	const most = 1 << 40
	for _, x := range []Tail{{0, most, 1}, {most, most, 65536}, {most - 1, most, 1}, {most - 64, most - 64, 1}, {most - 63, most, 1}, {1, most - 64, 1}} {
		isRight(t, x)
	}
	for _, x := range []Tail{{0, most + 64, 1}, {most + 1, most + 64, 1}, {most + 64, most + 64, 1}, {most, most - 64, 1}, {most - 63, most - 64, 1},
		{most + 1, most, 1}, {0, most - 1, 1}, {0, most + 1, 1}, {0, most - 32, 1}, {0, 2 * most, 1}, {2 * most, 2 * most, 1}} {
		isWrong(t, x)
	}
}

func TestSizes(t *testing.T) {
	for size := -100; size <= 66000; size++ {
		x := Tail{10, 64, size}
		if size >= 1 && size <= 65536 {
			isRight(t, x)
			continue
		}
		isWrong(t, x)
	}
}

func TestFarNumbers(t *testing.T) {
	for _, n := range farNumbers() {
		for _, x := range []Tail{{n, 64, 1}, {0, n, 1}, {0, 64, n}, {n, n, n}, {n, n, 1}, {0, n, n}} {
			isWrong(t, x)
		}
	}
}

func TestEncodeEachByte(t *testing.T) {
	want := append([]byte("AVBf"),
		0, 0, 0, 1,
		0, 0, 0, 0x12, 0x34, 0x56, 0x78, 0x9a,
		0, 0, 0, 0x98, 0x76, 0x54, 0x32, 0x40,
		0, 0, 0, 0, 0, 0, 0xab, 0xcd)
	want = append(want, make([]byte, 32)...)
	b, e := Encode(Tail{0x123456789a, 0x9876543240, 0xabcd})
	if e != api.OK || !bytes.Equal(b, want) {
		t.Errorf("%x, %d", b, e)
	}
	isRight(t, Tail{0x123456789a, 0x9876543240, 0xabcd})
}

func TestParseLengths(t *testing.T) {
	b := append(laid(10, 64, 100), make([]byte, 200)...)
	for n := range 260 {
		if n == 64 {
			continue
		}
		parseFails(t, b[:n], api.ErrEnd)
		// Whatever they hold.
		parseFails(t, times(n, 0xff), api.ErrEnd)
		parseFails(t, make([]byte, n), api.ErrEnd)
	}
	parseFails(t, nil, api.ErrEnd)
	parseFails(t, b[:64][1:], api.ErrEnd)
	parseFails(t, make([]byte, 1<<20), api.ErrEnd)
	if x, e := Parse(b[:64]); x != (Tail{10, 64, 100}) || e != api.OK {
		t.Error(x, e)
	}
}

// Each value of each byte.
func TestParseEachByte(t *testing.T) {
	x := Tail{0x10040, 0x20080, 0x0101}
	for at := range 64 {
		for to := range 256 {
			b := laidOf(x)
			b[at] = byte(to)
			if bytes.Equal(b, laidOf(x)) {
				continue
			}
			switch {
			case at < 4:
				parseFails(t, b, api.ErrMagic)
			case at < 8:
				parseFails(t, b, api.ErrVersion)
			case at >= 32:
				parseFails(t, b, api.ErrForm)
			default:
				if y, e := Parse(b); y == x || e != api.OK && e != api.ErrForm {
					t.Fatal(at, to, y, e)
				}
			}
		}
	}
}

func TestParseVersions(t *testing.T) {
	for _, v := range []uint32{0, 2, 3, 1 << 8, 1 << 16, 1 << 24, 1<<24 + 1, 1<<31 + 1, 1 << 31, math.MaxUint32, 257} {
		b := laid(10, 64, 100)
		binary.BigEndian.PutUint32(b[4:], v)
		parseFails(t, b, api.ErrVersion)
	}
	for _, m := range []string{"AVB0", "avbf", "fBVA", "AVBF", "AVB\x00", "\x00\x00\x00\x00"} {
		b := laid(10, 64, 100)
		copy(b, m)
		parseFails(t, b, api.ErrMagic)
	}
}

// Numbers whose highest bits make them no right ones, however their lowest
// ones are.
func TestParseHighBits(t *testing.T) {
	for bit := 41; bit < 64; bit++ {
		high := uint64(1) << bit
		parseFails(t, laid(high+10, 64, 100), api.ErrForm)
		parseFails(t, laid(10, high+64, 100), api.ErrForm)
		parseFails(t, laid(10, 64, high+100), api.ErrForm)
		parseFails(t, laid(high, high, high), api.ErrForm)
		// Noughts, if that bit and those above were left out.
		parseFails(t, laid(high, 64, 100), api.ErrForm)
		parseFails(t, laid(0, high, 100), api.ErrForm)
	}
	parseFails(t, laid(math.MaxUint64, math.MaxUint64, math.MaxUint64), api.ErrForm)
}

func TestParseErrorsInTheirOrder(t *testing.T) {
	b := laid(65, 64, 0)
	b[63] = 1
	parseFails(t, b, api.ErrForm)
	b[7] = 2
	parseFails(t, b, api.ErrVersion)
	b[0] = 'a'
	parseFails(t, b, api.ErrMagic)
	parseFails(t, b[:63], api.ErrEnd)
	parseFails(t, append(b, 0), api.ErrEnd)
	parseFails(t, make([]byte, 64), api.ErrMagic)
	parseFails(t, times(64, 0xff), api.ErrMagic)
	parseFails(t, append([]byte("AVBf"), make([]byte, 60)...), api.ErrVersion)
	parseFails(t, laid(0, 0, 0), api.ErrForm)
}

// modelParse reads a tail by the library.
func modelParse(b []byte) (Tail, api.Errno) {
	if len(b) != 64 {
		return Tail{}, api.ErrEnd
	}
	if string(b[:4]) != "AVBf" {
		return Tail{}, api.ErrMagic
	}
	if binary.BigEndian.Uint32(b[4:]) != 1 {
		return Tail{}, api.ErrVersion
	}
	data, off, size := binary.BigEndian.Uint64(b[8:]), binary.BigEndian.Uint64(b[16:]), binary.BigEndian.Uint64(b[24:])
	if data > off || off > 1<<40 || off%64 != 0 || size == 0 || size > 1<<16 || !bytes.Equal(b[32:], make([]byte, 32)) {
		return Tail{}, api.ErrForm
	}
	return Tail{int(data), int(off), int(size)}, api.OK
}

func one[T any](r *rand.Rand, of ...T) T { return of[r.Intn(len(of))] }

// someTail is a tail that is often right.
func someTail(r *rand.Rand) Tail {
	off := 64 * r.Intn(one(r, 2, 40, 1<<34))
	x := Tail{r.Intn(off + 1), off, 1 + r.Intn(one(r, 3, 500, 1<<16))}
	switch r.Intn(8) {
	case 0:
		x.Data = off + one(r, -1, 0, 1)
	case 1:
		x.Off += one(r, -1, 1, 32, -64)
	case 2:
		x.Size = one(r, 0, -1, 1, 1<<16, 1<<16+1)
	}
	return x
}

func TestParseAgainstTheModel(t *testing.T) {
	r := rand.New(rand.NewSource(141))
	seen := map[api.Errno]int{}
	for range 200000 {
		b := laidOf(someTail(r))
		for range r.Intn(3) {
			b[r.Intn(64)] ^= 1 << r.Intn(8)
		}
		if r.Intn(20) == 0 {
			b = b[:r.Intn(65)]
		}
		x, e := Parse(b)
		if y, f := modelParse(b); x != y || e != f {
			t.Fatalf("%x: %v, %d, not %v, %d", b, x, e, y, f)
		}
		if again, f := Encode(x); e == api.OK && (f != api.OK || !bytes.Equal(again, b)) {
			t.Fatalf("%x: %x, %d", b, again, f)
		}
		seen[e]++
	}
	for _, e := range []api.Errno{api.OK, api.ErrEnd, api.ErrMagic, api.ErrVersion, api.ErrForm} {
		if seen[e] < 1000 {
			t.Error(e, seen[e])
		}
	}
}

// P14.2

func TestLoadWhatIsThere(t *testing.T) {
	d := made(t, 1024, 512)
	for _, x := range []Tail{{0, 0, 1}, {0, 0, 960}, {10, 64, 100}, {64, 64, 896}, {0, 896, 64}, {896, 896, 1}, {5, 448, 77}} {
		raw := filled(x.Size)
		write(t, d, "p", x.Off, raw)
		write(t, d, "p", 960, laidOf(x))
		loads(t, d, "p", raw, x)
	}
	loadFails(t, d, "q", api.ErrMagic)
	// A partition may end with the greatest blob.
	d = made(t, 1<<16+64)
	write(t, d, "p", 0, filled(1<<16))
	write(t, d, "p", 1<<16, laid(0, 0, 1<<16))
	loads(t, d, "p", filled(1<<16), Tail{0, 0, 1 << 16})
}

func TestLoadFromTheEndOfTheDrive(t *testing.T) {
	d := made(t, 1<<20)
	x := Tail{1<<20 - 200, 1<<20 - 192, 128}
	write(t, d, "p", x.Off, filled(128))
	write(t, d, "p", 1<<20-64, laidOf(x))
	loads(t, d, "p", filled(128), x)
}

// The stretch may reach up to the tail, not into it.
func TestLoadRanges(t *testing.T) {
	d := made(t, 512, 64)
	for off := 0; off <= 640; off += 64 {
		for size := 1; size <= 520; size++ {
			x := Tail{0, off, size}
			write(t, d, "p", 0, filled(448))
			write(t, d, "p", 448, laidOf(x))
			if off+size > 448 {
				loadFails(t, d, "p", api.ErrRange)
				continue
			}
			loads(t, d, "p", filled(448)[off:off+size], x)
		}
	}
	for _, x := range []Tail{{0, 1 << 40, 1}, {0, 1 << 40, 1 << 16}, {1 << 40, 1 << 40, 1}, {0, 0, 1 << 16}, {0, 1 << 32, 1}, {0, 1<<32 + 64, 10}} {
		write(t, d, "p", 448, laidOf(x))
		loadFails(t, d, "p", api.ErrRange)
	}
	// A partition that has a tail alone has no blob.
	for _, size := range []uint64{1, 64} {
		write(t, d, "q", 0, laid(0, 0, size))
		loadFails(t, d, "q", api.ErrRange)
	}
}

func TestLoadTellsTheErrorOfParse(t *testing.T) {
	d := made(t, 512)
	write(t, d, "p", 0, filled(448))
	for at := range 64 {
		b := laid(10, 64, 100)
		b[at] ^= 0xff
		write(t, d, "p", 448, b)
		if _, e := modelParse(b); e != api.OK {
			loadFails(t, d, "p", e)
		}
	}
	// Bytes that would be a tail, a byte further on or ahead.
	for _, at := range []int{447, 384, 0} {
		write(t, d, "p", at, laid(10, 64, 100))
		loadFails(t, d, "p", api.ErrMagic)
	}
}

func TestLoadBadSectors(t *testing.T) {
	d := made(t, 1024)
	raw := filled(130)
	write(t, d, "p", 192, raw)
	write(t, d, "p", 960, laid(70, 192, 130))
	for sector := range 16 {
		d.Bad("p", sector, true)
		// The blob touches the sectors 3 to 5, the tail 15.
		if sector >= 3 && sector <= 5 || sector == 15 {
			loadFails(t, d, "p", api.ErrRead)
		} else {
			loads(t, d, "p", raw, Tail{70, 192, 130})
		}
		d.Bad("p", sector, false)
	}
	loads(t, d, "p", raw, Tail{70, 192, 130})
}

func TestLoadErrorsInTheirOrder(t *testing.T) {
	d := made(t, 512)
	// Out of the partition, and the blob's sectors bad.
	for sector := range 7 {
		d.Bad("p", sector, true)
	}
	write(t, d, "p", 448, laid(0, 64, 385))
	loadFails(t, d, "p", api.ErrRange)
	write(t, d, "p", 448, laid(0, 64, 384))
	loadFails(t, d, "p", api.ErrRead)
	write(t, d, "p", 448, laid(0, 65, 385))
	loadFails(t, d, "p", api.ErrForm)
	d.Bad("p", 7, true)
	loadFails(t, d, "p", api.ErrRead)
	loadFails(t, d, "q", api.ErrPart)
	d.Arm(0, nil)
	d.Write("p", 0, []byte{1})
	loadFails(t, d, "p", api.ErrDown)
	loadFails(t, d, "q", api.ErrDown)
	d.Boot()
	loadFails(t, d, "p", api.ErrRead)
}

func TestLoadNames(t *testing.T) {
	d := made(t, 512, 512)
	stores(t, d, "p", 0, filled(10), api.OK)
	stores(t, d, "q", 64, filled(20), api.OK)
	loads(t, d, "p", filled(10), Tail{0, 0, 10})
	loads(t, d, "q", filled(20), Tail{64, 64, 20})
	for _, name := range []string{"", "r", "P", "pq", "p ", "p\x00", "\xff", string(times(1000, 'p'))} {
		loadFails(t, d, name, api.ErrPart)
	}
	none, e := drive.New(nil)
	if e != api.OK {
		t.Fatal(e)
	}
	loadFails(t, none, "p", api.ErrPart)
	loadFails(t, none, "", api.ErrPart)
}

// What is read: the tail, then the blob, and nothing else.
func TestLoadReads(t *testing.T) {
	d := made(t, 512)
	read := func() (int, int) {
		calls, size := d.Reads()
		Load(d, "p")
		again, more := d.Reads()
		return again - calls, more - size
	}
	for _, x := range []struct {
		tail        []byte
		calls, size int
	}{
		{laid(10, 64, 100), 2, 164},
		{laid(0, 0, 448), 2, 512},
		{laid(0, 0, 1), 2, 65},
		{laid(0, 0, 449), 1, 64},
		{laid(0, 0, 0), 1, 64},
		{times(64, 0), 1, 64},
	} {
		write(t, d, "p", 448, x.tail)
		if calls, size := read(); calls != x.calls || size != x.size {
			t.Errorf("%x: %d, %d", x.tail, calls, size)
		}
	}
}

// Load neither writes nor turns anything.
func TestLoadLeavesTheDrive(t *testing.T) {
	d := made(t, 512)
	stores(t, d, "p", 10, filled(100), api.OK)
	before := all(t, d, "p")
	d.Arm(0, nil)
	loads(t, d, "p", filled(100), Tail{10, 64, 100})
	loadFails(t, d, "q", api.ErrPart)
	if d.Down() || !bytes.Equal(all(t, d, "p"), before) {
		t.Error(d.Down())
	}
}

// P14.3

// behind is what a partition's bytes are after Store.
func behind(before []byte, data int, raw []byte) []byte {
	b := bytes.Clone(before)
	off := (data + 63) / 64 * 64
	copy(b[off:], raw)
	copy(b[len(b)-64:], laid(uint64(data), uint64(off), uint64(len(raw))))
	return b
}

func TestStoreExample(t *testing.T) {
	d := made(t, 512)
	raw := filled(100)
	stores(t, d, "p", 10, raw, api.OK)
	want := append(times(64, 0xee), raw...)
	want = append(want, times(448-164, 0xee)...)
	want = append(want, laid(10, 64, 100)...)
	if b := all(t, d, "p"); !bytes.Equal(b, want) {
		t.Errorf("%x", b)
	}
	loads(t, d, "p", raw, Tail{10, 64, 100})
}

// Each length of data, with each length of a blob.
func TestStoreRoom(t *testing.T) {
	d := made(t, 256, 256)
	for data := range 300 {
		for size := 1; size < 300; size++ {
			write(t, d, "p", 0, times(256, 0xee))
			before := all(t, d, "p")
			if (data+63)/64*64+size > 192 {
				stores(t, d, "p", data, filled(size), api.ErrFull)
				if !bytes.Equal(all(t, d, "p"), before) {
					t.Fatal(data, size)
				}
				continue
			}
			stores(t, d, "p", data, filled(size), api.OK)
			if b := all(t, d, "p"); !bytes.Equal(b, behind(before, data, filled(size))) {
				t.Fatalf("%d, %d: %x", data, size, b)
			}
		}
	}
	if !bytes.Equal(all(t, d, "q"), times(256, 0xee)) {
		t.Error("q")
	}
}

func TestStoreInTheLeastPartition(t *testing.T) {
	d := made(t, 64, 128)
	for _, data := range []int{0, 1, 63, 64, 65} {
		stores(t, d, "p", data, filled(1), api.ErrFull)
	}
	stores(t, d, "q", 0, filled(64), api.OK)
	stores(t, d, "q", 0, filled(65), api.ErrFull)
	stores(t, d, "q", 1, filled(1), api.ErrFull)
	stores(t, d, "q", 64, filled(1), api.ErrFull)
	loads(t, d, "q", filled(64), Tail{0, 0, 64})
}

func TestStoreTheGreatest(t *testing.T) {
	d := made(t, 1<<18)
	end := 1<<18 - 64
	stores(t, d, "p", end-1<<16, filled(1<<16), api.OK)
	loads(t, d, "p", filled(1<<16), Tail{end - 1<<16, end - 1<<16, 1 << 16})
	stores(t, d, "p", end-1<<16+1, filled(1<<16), api.ErrFull)
	stores(t, d, "p", end-1<<16-63, filled(1<<16), api.OK)
	stores(t, d, "p", 0, filled(1<<16+1), api.ErrForm)
	stores(t, d, "p", 0, filled(1<<17), api.ErrForm)
	// A whole drive, with data up to the last bytes.
	d = made(t, 1<<20)
	stores(t, d, "p", 1<<20-128, filled(64), api.OK)
	loads(t, d, "p", filled(64), Tail{1<<20 - 128, 1<<20 - 128, 64})
	stores(t, d, "p", 1<<20-127, filled(1), api.ErrFull)
	stores(t, d, "p", 1<<20, filled(1), api.ErrFull)
}

func TestStoreFarData(t *testing.T) {
	d := made(t, 512)
	before := all(t, d, "p")
	for _, data := range append(farNumbers(), 385, 448, 449, 512, 1<<20, 1<<20+64, 1<<32, 1<<63-64, 1<<62-63) {
		want := api.ErrFull
		if data < 0 {
			want = api.ErrForm
		}
		stores(t, d, "p", data, filled(1), want)
	}
	if !bytes.Equal(all(t, d, "p"), before) {
		t.Error("changed")
	}
}

func TestStoreErrorsInTheirOrder(t *testing.T) {
	d := made(t, 512)
	before := all(t, d, "p")
	stores(t, d, "q", -1, nil, api.ErrPart)
	stores(t, d, "q", 0, filled(1), api.ErrPart)
	stores(t, d, "", 0, filled(1), api.ErrPart)
	stores(t, d, "p", -1, filled(1), api.ErrForm)
	stores(t, d, "p", 0, nil, api.ErrForm)
	stores(t, d, "p", 0, []byte{}, api.ErrForm)
	stores(t, d, "p", -1, nil, api.ErrForm)
	stores(t, d, "p", 1000, nil, api.ErrForm)
	stores(t, d, "p", 1000, filled(1<<16+1), api.ErrForm)
	stores(t, d, "p", -1, filled(1<<16), api.ErrForm)
	stores(t, d, "p", 0, filled(1<<16), api.ErrFull)
	// Size has no error of the power: only the writes have.
	d.Arm(0, nil)
	d.Write("p", 0, []byte{1})
	stores(t, d, "q", 0, filled(1), api.ErrPart)
	stores(t, d, "p", -1, filled(1), api.ErrForm)
	stores(t, d, "p", 0, nil, api.ErrForm)
	stores(t, d, "p", 0, filled(449), api.ErrFull)
	stores(t, d, "p", 0, filled(448), api.ErrDown)
	d.Boot()
	if !bytes.Equal(all(t, d, "p"), before) {
		t.Error("changed")
	}
}

// A call that is refused takes none of the writes till the power goes.
func TestStoreRefusedWritesNothing(t *testing.T) {
	d := made(t, 512)
	d.Arm(0, nil)
	stores(t, d, "q", 0, filled(1), api.ErrPart)
	stores(t, d, "p", -1, filled(1), api.ErrForm)
	stores(t, d, "p", 0, filled(449), api.ErrFull)
	if d.Down() {
		t.Error("down")
	}
}

// The blob is written whole, then the tail whole: there are two writes.
func TestStoreTornWrites(t *testing.T) {
	raw := filled(130)
	for _, keep := range [][]bool{nil, {true}, {false, true}, {true, true}, {true, true, true}, {false, false, true}} {
		for n := range 3 {
			d := made(t, 512)
			before := all(t, d, "p")
			d.Arm(n, keep)
			want := bytes.Clone(before)
			switch n {
			case 0:
				stores(t, d, "p", 65, raw, api.ErrDown)
				for i, kept := range keep {
					if kept {
						copy(want[128+64*i:], raw[64*i:min(64*i+64, len(raw))])
					}
				}
			case 1:
				stores(t, d, "p", 65, raw, api.ErrDown)
				copy(want[128:], raw)
				if len(keep) > 0 && keep[0] {
					copy(want[448:], laid(65, 128, 130))
				}
			case 2:
				stores(t, d, "p", 65, raw, api.OK)
				want = behind(before, 65, raw)
			}
			if d.Down() != (n < 2) {
				t.Fatal(n, keep, d.Down())
			}
			d.Boot()
			if b := all(t, d, "p"); !bytes.Equal(b, want) {
				t.Fatalf("%d, %v: %x", n, keep, b)
			}
		}
	}
}

// Bad sectors can be written.
func TestStoreOnBadSectors(t *testing.T) {
	d := made(t, 512)
	for sector := range 8 {
		d.Bad("p", sector, true)
	}
	stores(t, d, "p", 65, filled(130), api.OK)
	loadFails(t, d, "p", api.ErrRead)
	for sector := range 8 {
		d.Bad("p", sector, false)
	}
	loads(t, d, "p", filled(130), Tail{65, 128, 130})
}

func TestStoreReadsNothing(t *testing.T) {
	d := made(t, 512)
	stores(t, d, "p", 65, filled(130), api.OK)
	if calls, size := d.Reads(); calls != 0 || size != 0 {
		t.Error(calls, size)
	}
}

// modelLoad loads by the drive's calls alone.
func modelLoad(d *drive.Drive, name string, size int) ([]byte, Tail, api.Errno) {
	b, e := d.Read(name, size-64, 64)
	if e != api.OK {
		return nil, Tail{}, e
	}
	x, e := modelParse(b)
	if e != api.OK {
		return nil, Tail{}, e
	}
	if x.Off+x.Size > size-64 {
		return nil, Tail{}, api.ErrRange
	}
	raw, e := d.Read(name, x.Off, x.Size)
	if e != api.OK {
		return nil, Tail{}, e
	}
	return raw, x, api.OK
}

// modelStore is what Store is to answer while the power stays, and the
// partition's bytes then.
func modelStore(before []byte, data int, raw []byte) ([]byte, api.Errno) {
	if data < 0 || len(raw) == 0 || len(raw) > 1<<16 {
		return before, api.ErrForm
	}
	if (data+63)/64*64+len(raw)+64 > len(before) {
		return before, api.ErrFull
	}
	return behind(before, data, raw), api.OK
}

func TestAgainstTheModel(t *testing.T) {
	r := rand.New(rand.NewSource(142))
	seen := map[api.Errno]int{}
	for range 300 {
		size := 64 * (1 + r.Intn(12))
		d := made(t, size)
		bytesNow := times(size, 0xee)
		for range 60 {
			switch r.Intn(5) {
			case 0, 1:
				data, raw := r.Intn(size+10)-3, filled(r.Intn(one(r, 10, size+10)))
				after, want := modelStore(bytesNow, data, raw)
				stores(t, d, "p", data, raw, want)
				bytesNow = after
			case 2:
				at, x := r.Intn(size), []byte{1 << r.Intn(8)}
				d.Turn("p", at, x)
				bytesNow = bytes.Clone(bytesNow)
				bytesNow[at] ^= x[0]
			case 3:
				d.Bad("p", r.Intn(size/64), r.Intn(4) == 0)
			case 4:
				bytesNow = bytes.Clone(bytesNow)
				copy(bytesNow[size-64:], laidOf(someTail(r)))
				write(t, d, "p", 0, bytesNow)
			}
			raw, x, e := Load(d, "p")
			want, y, f := modelLoad(d, "p", size)
			if e != f || x != y || !bytes.Equal(raw, want) {
				t.Fatalf("%v, %d, not %v, %d", x, e, y, f)
			}
			if e == api.OK && !bytes.Equal(raw, bytesNow[x.Off:x.Off+x.Size]) {
				t.Fatalf("%v: %x", x, raw)
			}
			seen[e]++
		}
	}
	for _, e := range []api.Errno{api.OK, api.ErrMagic, api.ErrVersion, api.ErrForm, api.ErrRange, api.ErrRead} {
		if seen[e] < 50 {
			t.Error(e, seen[e])
		}
	}
}

// The rule of memory

const room = 32

// roomy is b with spare room behind it.
func roomy(b []byte) []byte { return append(bytes.Clone(b), times(room, 0xee)...)[:len(b)] }

// intact tells whether b, of roomy, is as it was, its spare room too.
func intact(b []byte, want []byte) bool {
	whole := b[:len(b)+room]
	return bytes.Equal(whole[:len(b)], want) && bytes.Equal(whole[len(b):], times(room, 0xee))
}

// spoil writes over bytes and all of their spare room.
func spoil(b []byte) {
	for i := range b[:cap(b)] {
		b[:cap(b)][i] = 0x55
	}
}

func TestParseLeavesItsArgument(t *testing.T) {
	for _, want := range [][]byte{laid(10, 64, 100), laid(65, 64, 100), times(64, 7), times(10, 7)} {
		b := roomy(want)
		Parse(b)
		if !intact(b, want) {
			t.Errorf("%x", b)
		}
	}
}

func TestEncodeTellsNewMemory(t *testing.T) {
	x := Tail{10, 64, 100}
	first, _ := Encode(x)
	second, _ := Encode(x)
	spoil(first)
	if !bytes.Equal(second, laidOf(x)) {
		t.Errorf("%x", second)
	}
	isRight(t, x)
}

func TestLoadTellsNewMemory(t *testing.T) {
	d := made(t, 512)
	stores(t, d, "p", 10, filled(100), api.OK)
	before := all(t, d, "p")
	first, _, _ := Load(d, "p")
	second, _, _ := Load(d, "p")
	spoil(first)
	if !bytes.Equal(second, filled(100)) || !bytes.Equal(all(t, d, "p"), before) {
		t.Errorf("%x", second)
	}
}

func TestStoreNeitherChangesNorKeepsItsArgument(t *testing.T) {
	d := made(t, 512)
	raw := roomy(filled(100))
	stores(t, d, "p", 10, raw, api.OK)
	if !intact(raw, filled(100)) {
		t.Errorf("%x", raw)
	}
	spoil(raw)
	loads(t, d, "p", filled(100), Tail{10, 64, 100})
	raw = roomy(filled(100))
	stores(t, d, "p", 1000, raw, api.ErrFull)
	stores(t, d, "p", -1, raw, api.ErrForm)
	stores(t, d, "q", 0, raw, api.ErrPart)
	if !intact(raw, filled(100)) {
		t.Errorf("%x", raw)
	}
}
