package span

import (
	"bytes"
	"math"
	"testing"

	"sallyport/api"
)

// P1.1

func TestGetReadsTheHighestByteFirst(t *testing.T) {
	b := []byte{1, 2, 3, 4, 5, 6, 7, 8, 9}
	for _, x := range []struct{ off, size, want int }{
		{0, 1, 1},
		{8, 1, 9},
		{0, 2, 0x0102},
		{3, 3, 0x040506},
		{5, 4, 0x06070809},
		{0, 5, 0x0102030405},
		{1, 6, 0x020304050607},
		{2, 7, 0x03040506070809},
		{0, 8, 0x0102030405060708},
		{1, 8, 0x0203040506070809},
	} {
		n, e := Get(b, x.off, x.size)
		if n != x.want || e != api.OK {
			t.Error(x, n, e)
		}
	}
}

func TestGetAtTheEdges(t *testing.T) {
	full := bytes.Repeat([]byte{0xff}, 8)
	for size := 1; size <= 7; size++ {
		if n, e := Get(full, 0, size); n != 1<<(8*size)-1 || e != api.OK {
			t.Error(size, n, e)
		}
	}
	if n, e := Get(make([]byte, 8), 0, 8); n != 0 || e != api.OK {
		t.Error(n, e)
	}
	most := []byte{0x7f, 255, 255, 255, 255, 255, 255, 255}
	if n, e := Get(most, 0, 8); n != math.MaxInt64 || e != api.OK {
		t.Error(n, e)
	}
}

func TestGetErrors(t *testing.T) {
	full := bytes.Repeat([]byte{0xff}, 8)
	for _, x := range []struct {
		b         []byte
		off, size int
		e         api.Errno
	}{
		{full, 0, 0, api.ErrForm},
		{full, 0, 9, api.ErrForm},
		{full, 0, -1, api.ErrForm},
		{full, 0, math.MaxInt, api.ErrForm},
		{full, 0, math.MinInt, api.ErrForm},
		{full, -1, 1, api.ErrEnd},
		{full, 8, 1, api.ErrEnd},
		{full, 7, 2, api.ErrEnd},
		{full, 1, 8, api.ErrEnd},
		{full, math.MaxInt, 8, api.ErrEnd},
		{full, math.MinInt, 8, api.ErrEnd},
		{nil, 0, 1, api.ErrEnd},
		{full[:4:8], 0, 5, api.ErrEnd},
		{full, 0, 8, api.ErrBig},
		{[]byte{0x80, 0, 0, 0, 0, 0, 0, 0}, 0, 8, api.ErrBig},
	} {
		if n, e := Get(x.b, x.off, x.size); n != 0 || e != x.e {
			t.Error(x, n, e)
		}
	}
}

func TestGetErrorsInTheirOrder(t *testing.T) {
	full := bytes.Repeat([]byte{0xff}, 8)
	if n, e := Get(full, -1, 9); n != 0 || e != api.ErrForm {
		t.Error("size ahead of the end", n, e)
	}
	if n, e := Get(nil, 0, 0); n != 0 || e != api.ErrForm {
		t.Error("size ahead of the end, of no bytes", n, e)
	}
	if n, e := Get(full[:7], 0, 8); n != 0 || e != api.ErrEnd {
		t.Error("the end ahead of too great a number", n, e)
	}
}

func TestPutWritesTheHighestByteFirst(t *testing.T) {
	for _, x := range []struct {
		b       []byte
		size, n int
		want    []byte
	}{
		{nil, 3, 258, []byte{0, 1, 2}},
		{[]byte{}, 1, 0, []byte{0}},
		{[]byte{9, 8}, 2, 0x0102, []byte{9, 8, 1, 2}},
		{[]byte{9}, 8, 0x0102030405060708, []byte{9, 1, 2, 3, 4, 5, 6, 7, 8}},
		{nil, 8, math.MaxInt64, []byte{0x7f, 255, 255, 255, 255, 255, 255, 255}},
	} {
		out, e := Put(x.b, x.size, x.n)
		if !bytes.Equal(out, x.want) || e != api.OK {
			t.Error(x, out, e)
		}
	}
}

func TestPutAtTheRoomOfEachSize(t *testing.T) {
	for size := 1; size <= 7; size++ {
		out, e := Put(nil, size, 1<<(8*size)-1)
		if !bytes.Equal(out, bytes.Repeat([]byte{0xff}, size)) || e != api.OK {
			t.Error(size, out, e)
		}
		if out, e := Put([]byte{1}, size, 1<<(8*size)); len(out) != 0 || e != api.ErrBig {
			t.Error(size, out, e)
		}
		if out, e := Put(nil, size, math.MaxInt); len(out) != 0 || e != api.ErrBig {
			t.Error(size, out, e)
		}
	}
}

func TestPutErrors(t *testing.T) {
	for _, x := range []struct {
		size, n int
		e       api.Errno
	}{
		{0, 0, api.ErrForm},
		{9, 0, api.ErrForm},
		{-1, 0, api.ErrForm},
		{math.MaxInt, 0, api.ErrForm},
		{math.MinInt, 0, api.ErrForm},
		{0, -1, api.ErrForm},
		{9, -1, api.ErrForm},
		{0, 1, api.ErrForm},
		{1, -1, api.ErrBig},
		{8, -1, api.ErrBig},
		{8, math.MinInt, api.ErrBig},
		{1, 256, api.ErrBig},
	} {
		if out, e := Put([]byte{1, 2}, x.size, x.n); len(out) != 0 || e != x.e {
			t.Error(x, out, e)
		}
	}
}

func TestGetReadsWhatPutWrote(t *testing.T) {
	head := []byte{7, 7, 7}
	for size := 1; size <= 8; size++ {
		for bit := range min(8*size, 63) {
			n := 1<<bit | 1
			out, e := Put(head, size, n)
			if e != api.OK || len(out) != len(head)+size || !bytes.Equal(out[:3], head) {
				t.Error(size, n, out, e)
				continue
			}
			if back, e := Get(out, len(head), size); back != n || e != api.OK {
				t.Error(size, n, back, e)
			}
		}
	}
}

// P1.2

func TestWithin(t *testing.T) {
	for _, x := range []struct {
		off, length, total int
		want               bool
	}{
		{0, 0, 0, true},
		{0, 10, 10, true},
		{5, 5, 10, true},
		{10, 0, 10, true},
		{9, 1, 10, true},
		{5, 6, 10, false},
		{11, 0, 10, false},
		{0, 11, 10, false},
		{10, 1, 10, false},
		{0, 1, 0, false},
		{1, 0, 0, false},
		{-1, 1, 10, false},
		{-1, 11, 10, false},
		{1, -1, 10, false},
		{11, -1, 10, false},
		{0, 0, -1, false},
		{-1, -1, -1, false},
		{0, -1, -1, false},
		{-1, 0, -1, false},
	} {
		if got := Within(x.off, x.length, x.total); got != x.want {
			t.Error(x, got)
		}
	}
}

func TestWithinOfGreatNumbers(t *testing.T) {
	const most, least = math.MaxInt, math.MinInt
	for _, x := range []struct {
		off, length, total int
		want               bool
	}{
		{5, most, 10, false},
		{most, 5, 10, false},
		{most, most, most, false},
		{1, most, most, false},
		{most, 1, most, false},
		{0, most, most, true},
		{most, 0, most, true},
		{1, most - 1, most, true},
		{2, most - 1, most, false},
		{least, most, most, false},
		{most, least, most, false},
		{least, least, 0, false},
		{0, 0, least, false},
		{0, 1, least, false},
		{0, most, least, false},
		{most, most, least, false},
	} {
		if got := Within(x.off, x.length, x.total); got != x.want {
			t.Error(x, got)
		}
	}
}

func TestCut(t *testing.T) {
	b := []byte("abcdef")
	for off := 0; off <= len(b); off++ {
		for length := 0; off+length <= len(b); length++ {
			c, e := Cut(b, off, length)
			if !bytes.Equal(c, b[off:off+length]) || e != api.OK {
				t.Error(off, length, c, e)
			}
		}
	}
	if c, e := Cut(nil, 0, 0); len(c) != 0 || e != api.OK {
		t.Error(c, e)
	}
}

func TestCutErrors(t *testing.T) {
	b := []byte("abcdefgh")[:6:8]
	for _, x := range [][2]int{
		{0, 7}, {6, 1}, {7, 0}, {5, 2}, {-1, 1}, {-1, 0}, {1, -1}, {7, -1},
		{math.MaxInt, 1}, {1, math.MaxInt}, {math.MaxInt, math.MaxInt},
		{math.MinInt, 1}, {1, math.MinInt}, {math.MinInt, math.MinInt},
	} {
		if c, e := Cut(b, x[0], x[1]); len(c) != 0 || e != api.ErrEnd {
			t.Error(x, c, e)
		}
	}
	if c, e := Cut(nil, 0, 1); len(c) != 0 || e != api.ErrEnd {
		t.Error(c, e)
	}
}

// P1.3

func TestAlign(t *testing.T) {
	for _, x := range []struct{ n, to, want int }{
		{0, 1, 0},
		{0, 1 << 16, 0},
		{1, 1, 1},
		{1, 64, 64},
		{63, 64, 64},
		{64, 64, 64},
		{65, 64, 128},
		{10, 7, 14},
		{14, 7, 14},
		{1, 1 << 16, 1 << 16},
		{1<<16 + 1, 1 << 16, 1 << 17},
		{1<<62 - 1, 1, 1<<62 - 1},
		{1 << 62, 1, 1 << 62},
		{1 << 62, 1 << 16, 1 << 62},
		{1<<62 - 1, 1 << 16, 1 << 62},
		{1<<62 - 1<<16 + 1, 1 << 16, 1 << 62},
	} {
		if n, e := Align(x.n, x.to); n != x.want || e != api.OK {
			t.Error(x, n, e)
		}
	}
}

func TestAlignIsTheLeastMultiple(t *testing.T) {
	for to := 1; to <= 40; to++ {
		for n := range 130 {
			want := n
			for want%to != 0 {
				want++
			}
			if got, e := Align(n, to); got != want || e != api.OK {
				t.Error(n, to, got, e)
			}
		}
	}
}

func TestAlignErrors(t *testing.T) {
	for _, x := range []struct {
		n, to int
		e     api.Errno
	}{
		{-1, 64, api.ErrForm},
		{math.MinInt, 1, api.ErrForm},
		{1, 0, api.ErrForm},
		{1, -1, api.ErrForm},
		{1, 1<<16 + 1, api.ErrForm},
		{1, math.MaxInt, api.ErrForm},
		{1, math.MinInt, api.ErrForm},
		{0, 0, api.ErrForm},
		{-1, 0, api.ErrForm},
		{math.MaxInt, 0, api.ErrForm},
		{math.MaxInt, 1<<16 + 1, api.ErrForm},
		{1<<62 - 1, 7, api.ErrBig},
		{1 << 62, 3, api.ErrBig},
		{1<<62 + 1, 1, api.ErrBig},
		{1<<62 + 1, 1 << 16, api.ErrBig},
		{math.MaxInt, 1, api.ErrBig},
		{math.MaxInt, 1 << 16, api.ErrBig},
		{math.MaxInt - 1, 1<<16 - 1, api.ErrBig},
	} {
		if n, e := Align(x.n, x.to); n != 0 || e != x.e {
			t.Error(x, n, e)
		}
	}
}

func TestPad(t *testing.T) {
	text := bytes.Repeat([]byte{0xaa}, 130)
	for _, to := range []int{1, 2, 3, 7, 8, 64, 129, 130, 131, 1 << 16} {
		for n := range len(text) + 1 {
			want, _ := Align(n, to)
			p, e := Pad(text[:n], to)
			if e != api.OK || len(p) != want || !bytes.Equal(p[:n], text[:n]) || !Zeros(p[n:]) {
				t.Error(n, to, len(p), e)
			}
		}
	}
	if p, e := Pad(nil, 64); len(p) != 0 || e != api.OK {
		t.Error(p, e)
	}
}

func TestPadErrors(t *testing.T) {
	for _, to := range []int{0, -1, 1<<16 + 1, math.MaxInt, math.MinInt} {
		for _, b := range [][]byte{nil, []byte("abc")} {
			if p, e := Pad(b, to); len(p) != 0 || e != api.ErrForm {
				t.Error(to, p, e)
			}
		}
	}
}

func TestZeros(t *testing.T) {
	if !Zeros(nil) || !Zeros([]byte{}) || !Zeros(make([]byte, 100)) {
		t.Error("noughts")
	}
	for at := range 100 {
		for _, x := range []byte{1, 0x80, 0xff} {
			b := make([]byte, 100)
			b[at] = x
			if Zeros(b) {
				t.Error(at, x)
			}
		}
	}
	if !Zeros([]byte{0, 0, 1}[:2]) {
		t.Error("the spare room counts for nothing")
	}
}

// Memory, as the rules that hold everywhere have it.

func TestAnswersAreNewMemory(t *testing.T) {
	for name, call := range map[string]func(b []byte) ([]byte, api.Errno){
		"Put":                 func(b []byte) ([]byte, api.Errno) { return Put(b, 2, 0x0102) },
		"Cut":                 func(b []byte) ([]byte, api.Errno) { return Cut(b, 1, 2) },
		"Cut, the whole":      func(b []byte) ([]byte, api.Errno) { return Cut(b, 0, len(b)) },
		"Cut, nothing":        func(b []byte) ([]byte, api.Errno) { return Cut(b, 1, 0) },
		"Pad":                 func(b []byte) ([]byte, api.Errno) { return Pad(b, 8) },
		"Pad, a multiple":     func(b []byte) ([]byte, api.Errno) { return Pad(b, 1) },
		"Put, refused":        func(b []byte) ([]byte, api.Errno) { return Put(b, 1, 256) },
		"Cut, refused":        func(b []byte) ([]byte, api.Errno) { return Cut(b, 3, 2) },
		"Pad, refused":        func(b []byte) ([]byte, api.Errno) { return Pad(b, 0) },
		"Put, in eight bytes": func(b []byte) ([]byte, api.Errno) { return Put(b, 8, 1) },
	} {
		whole := bytes.Repeat([]byte{0x55}, 32)
		out, e := call(whole[4:8])
		again, _ := call(whole[4:8])
		kept := bytes.Clone(again)
		fill(out, 0xee)
		if !bytes.Equal(whole, bytes.Repeat([]byte{0x55}, 32)) {
			t.Error(name, "changed what was handed in", e)
		}
		if !bytes.Equal(again, kept) {
			t.Error(name, "shares memory with another answer")
		}
		fill(whole, 0xdd)
		if !bytes.Equal(again, kept) {
			t.Error(name, "keeps what was handed in")
		}
	}
}

func fill(b []byte, x byte) {
	b = b[:cap(b)]
	for i := range b {
		b[i] = x
	}
}
