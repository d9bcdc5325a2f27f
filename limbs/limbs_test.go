package limbs

import (
	"bytes"
	"math/big"
	"math/rand"
	"slices"
	"testing"

	"sallyport/api"
)

const top = 1<<32 - 1

// full is the greatest number of a width.
func full(width int) Nat { return slices.Repeat(Nat{top}, width) }

// small is a number below 2^32 of a width.
func small(x uint32, width int) Nat {
	n := make(Nat, width)
	n[0] = x
	return n
}

// single is 2^bit of a width.
func single(bit int, width int) Nat {
	n := make(Nat, width)
	n[bit/32] = 1 << (bit % 32)
	return n
}

// noNumbers are lists of wrong widths.
func noNumbers() []Nat {
	return []Nat{nil, {}, make(Nat, 257), full(257), full(300)}
}

// mixed is a number of a width, whose limbs are often 0 or the greatest one.
func mixed(r *rand.Rand, width int) Nat {
	n := make(Nat, width)
	for i := range n {
		switch r.Intn(4) {
		case 0:
			n[i] = top
		case 1, 2:
			n[i] = r.Uint32()
		}
	}
	return n
}

// value is the sum that the chapter says a number is.
func value(n Nat) *big.Int {
	v := new(big.Int)
	for i, limb := range n {
		part := new(big.Int).SetUint64(uint64(limb))
		v.Add(v, part.Lsh(part, uint(32*i)))
	}
	return v
}

// power is 2^bits.
func power(bits int) *big.Int { return new(big.Int).Lsh(big.NewInt(1), uint(bits)) }

// widths are those about the edges, and some between.
func widths() []int { return []int{1, 2, 3, 4, 7, 16, 127, 128, 129, 255, 256} }

// P4.1

func TestFromExamples(t *testing.T) {
	for _, c := range []struct {
		b     []byte
		width int
		want  Nat
	}{
		{[]byte{1, 0, 0, 0, 2}, 2, Nat{2, 1}},
		{[]byte{1, 2, 3, 4}, 1, Nat{0x01020304}},
		{[]byte{1, 2, 3}, 1, Nat{0x010203}},
		{[]byte{1, 2, 3}, 3, Nat{0x010203, 0, 0}},
		{[]byte{1, 2, 3, 4, 5, 6, 7}, 2, Nat{0x04050607, 0x010203}},
		{[]byte{1, 2, 3, 4, 5, 6, 7, 8, 9}, 4, Nat{0x06070809, 0x02030405, 1, 0}},
		{nil, 1, Nat{0}},
		{[]byte{}, 2, Nat{0, 0}},
		{[]byte{0}, 1, Nat{0}},
		{make([]byte, 5000), 1, Nat{0}},
		{nil, 256, make(Nat, 256)},
		{[]byte{255, 255, 255, 255}, 1, Nat{top}},
		{[]byte{0, 255, 0, 0, 0}, 1, Nat{0xff000000}},
	} {
		if n, e := From(c.b, c.width); e != api.OK || !slices.Equal(n, c.want) {
			t.Errorf("From(%x, %d) = %x, %d", c.b, c.width, n, e)
		}
	}
}

func TestFromRefusesWidths(t *testing.T) {
	for _, width := range []int{0, -1, 257, 258, 1 << 31, -1 << 63, 1<<63 - 1} {
		for _, b := range [][]byte{nil, {1}, bytes.Repeat([]byte{255}, 1025)} {
			if n, e := From(b, width); e != api.ErrSize || len(n) != 0 {
				t.Errorf("From of %d bytes, %d: %d limbs, %d", len(b), width, len(n), e)
			}
		}
	}
}

// A number of as many bytes as there is room for is read, and one more is
// refused; noughts ahead change neither.
func TestFromRoom(t *testing.T) {
	for _, width := range widths() {
		for _, noughts := range []int{0, 1, 3, 4, 5, 2000} {
			ahead := make([]byte, noughts)
			just := append(ahead, bytes.Repeat([]byte{255}, 4*width)...)
			if n, e := From(just, width); e != api.OK || !slices.Equal(n, full(width)) {
				t.Errorf("width %d, %d noughts: %d", width, noughts, e)
			}
			over := append(append(ahead, 1), make([]byte, 4*width)...)
			if n, e := From(over, width); e != api.ErrBig || len(n) != 0 {
				t.Errorf("width %d, %d noughts, 2^%d: %d", width, noughts, 32*width, e)
			}
		}
	}
	if n, e := From(append([]byte{1}, make([]byte, 1024)...), 256); e != api.ErrBig || len(n) != 0 {
		t.Error("2^8192", e)
	}
}

func TestFromIsTheNumber(t *testing.T) {
	r := rand.New(rand.NewSource(41))
	for _, width := range widths() {
		for size := range 4*width + 1 {
			b := make([]byte, size)
			r.Read(b)
			n, e := From(b, width)
			if e != api.OK || len(n) != width || value(n).Cmp(new(big.Int).SetBytes(b)) != 0 {
				t.Fatalf("width %d, %d bytes: %d", width, size, e)
			}
		}
	}
}

func TestBytesExamples(t *testing.T) {
	for _, c := range []struct {
		n    Nat
		size int
		want []byte
	}{
		{Nat{2, 1}, 5, []byte{1, 0, 0, 0, 2}},
		{Nat{2, 1}, 6, []byte{0, 1, 0, 0, 0, 2}},
		{Nat{2, 1}, 11, []byte{0, 0, 0, 0, 0, 0, 1, 0, 0, 0, 2}},
		{Nat{0x01020304}, 4, []byte{1, 2, 3, 4}},
		{Nat{0x010203, 0, 0}, 3, []byte{1, 2, 3}},
		{Nat{255}, 1, []byte{255}},
		{Nat{0}, 0, nil},
		{make(Nat, 256), 0, nil},
		{make(Nat, 256), 1, []byte{0}},
		{Nat{0}, 1024, make([]byte, 1024)},
		{full(256), 1024, bytes.Repeat([]byte{255}, 1024)},
		{Nat{7}, 1024, append(make([]byte, 1023), 7)},
	} {
		if b, e := Bytes(c.n, c.size); e != api.OK || !bytes.Equal(b, c.want) {
			t.Errorf("Bytes(%x, %d) = %x, %d", c.n, c.size, b, e)
		}
	}
}

func TestBytesRefusesSizes(t *testing.T) {
	for _, size := range []int{-1, -2, 1025, 1026, 1 << 31, 1 << 61, -1 << 63, 1<<63 - 1} {
		for _, n := range append(noNumbers(), Nat{0}, Nat{1, 2}, full(256)) {
			if b, e := Bytes(n, size); e != api.ErrSize || len(b) != 0 {
				t.Errorf("Bytes of %d limbs, %d: %d bytes, %d", len(n), size, len(b), e)
			}
		}
	}
	for _, n := range noNumbers() {
		for _, size := range []int{0, 1, 4, 1024} {
			if b, e := Bytes(n, size); e != api.ErrSize || len(b) != 0 {
				t.Errorf("Bytes of %d limbs, %d: %d bytes, %d", len(n), size, len(b), e)
			}
		}
	}
}

func TestBytesRoom(t *testing.T) {
	for _, width := range widths() {
		for _, size := range []int{0, 1, 2, 3, 4, 5, 4*width - 5, 4*width - 4, 4*width - 1} {
			if size < 0 || size >= 4*width {
				continue
			}
			over := single(8*size, width)
			if b, e := Bytes(over, size); e != api.ErrBig || len(b) != 0 {
				t.Errorf("width %d: 2^%d in %d bytes: %d", width, 8*size, size, e)
			}
			just, _, _ := Sub(over, small(1, width))
			if b, e := Bytes(just, size); e != api.OK || !bytes.Equal(b, bytes.Repeat([]byte{255}, size)) {
				t.Errorf("width %d: 2^%d - 1 in %d bytes: %x, %d", width, 8*size, size, b, e)
			}
		}
	}
}

func TestBytesAreTheNumber(t *testing.T) {
	r := rand.New(rand.NewSource(42))
	for _, width := range widths() {
		n := mixed(r, width)
		least := (value(n).BitLen() + 7) / 8
		for size := range 1025 {
			b, e := Bytes(n, size)
			if size < least {
				if e != api.ErrBig || len(b) != 0 {
					t.Fatalf("width %d in %d bytes: %d", width, size, e)
				}
				continue
			}
			if e != api.OK || !bytes.Equal(b, value(n).FillBytes(make([]byte, size))) {
				t.Fatalf("width %d in %d bytes: %d", width, size, e)
			}
			if again, e := From(b, width); e != api.OK || !slices.Equal(again, n) {
				t.Fatalf("width %d in %d bytes, read again: %d", width, size, e)
			}
		}
	}
}

// P4.2

func TestAddAndSubExamples(t *testing.T) {
	if s, over, e := Add(Nat{top}, Nat{1}); e != api.OK || !over || !slices.Equal(s, Nat{0}) {
		t.Error(s, over, e)
	}
	if s, over, e := Add(Nat{top, 5}, Nat{1, 6}); e != api.OK || over || !slices.Equal(s, Nat{0, 12}) {
		t.Error(s, over, e)
	}
	if d, under, e := Sub(Nat{0}, Nat{1}); e != api.OK || !under || !slices.Equal(d, Nat{top}) {
		t.Error(d, under, e)
	}
	if d, under, e := Sub(Nat{0, 12}, Nat{1, 6}); e != api.OK || under || !slices.Equal(d, Nat{top, 5}) {
		t.Error(d, under, e)
	}
}

// A carry, and a borrow, goes through every limb, and out of the last.
func TestAddAndSubGoThroughEveryLimb(t *testing.T) {
	for _, width := range widths() {
		one, nought, most := small(1, width), make(Nat, width), full(width)
		if s, over, e := Add(most, one); e != api.OK || !over || !slices.Equal(s, nought) {
			t.Errorf("width %d: %v, %d", width, over, e)
		}
		if s, over, e := Add(one, most); e != api.OK || !over || !slices.Equal(s, nought) {
			t.Errorf("width %d: %v, %d", width, over, e)
		}
		if s, over, e := Add(most, nought); e != api.OK || over || !slices.Equal(s, most) {
			t.Errorf("width %d: %v, %d", width, over, e)
		}
		twice := slices.Clone(most)
		twice[0]--
		if s, over, e := Add(most, most); e != api.OK || !over || !slices.Equal(s, twice) {
			t.Errorf("width %d: %v, %d", width, over, e)
		}
		if d, under, e := Sub(nought, one); e != api.OK || !under || !slices.Equal(d, most) {
			t.Errorf("width %d: %v, %d", width, under, e)
		}
		if d, under, e := Sub(nought, most); e != api.OK || !under || !slices.Equal(d, one) {
			t.Errorf("width %d: %v, %d", width, under, e)
		}
		if d, under, e := Sub(most, most); e != api.OK || under || !slices.Equal(d, nought) {
			t.Errorf("width %d: %v, %d", width, under, e)
		}
		if d, under, e := Sub(nought, nought); e != api.OK || under || !slices.Equal(d, nought) {
			t.Errorf("width %d: %v, %d", width, under, e)
		}
	}
}

// A carry that begins at a limb stops at the first that has room for it.
func TestCarriesBetweenLimbs(t *testing.T) {
	const width = 6
	for from := range width {
		for to := from + 1; to < width; to++ {
			run := make(Nat, width)
			for i := from; i < to; i++ {
				run[i] = top
			}
			first, last := single(32*from, width), single(32*to, width)
			if s, over, e := Add(run, first); e != api.OK || over || !slices.Equal(s, last) {
				t.Errorf("%d to %d: %x, %v, %d", from, to, s, over, e)
			}
			if d, under, e := Sub(last, first); e != api.OK || under || !slices.Equal(d, run) {
				t.Errorf("%d to %d: %x, %v, %d", from, to, d, under, e)
			}
		}
	}
}

func TestAddAndSubAreModulo(t *testing.T) {
	r := rand.New(rand.NewSource(43))
	for _, width := range widths() {
		for range 200 {
			a, b := mixed(r, width), mixed(r, width)
			sum := new(big.Int).Add(value(a), value(b))
			s, over, e := Add(a, b)
			if e != api.OK || len(s) != width || over != (sum.Cmp(power(32*width)) >= 0) || value(s).Cmp(sum.Mod(sum, power(32*width))) != 0 {
				t.Fatalf("Add(%x, %x) = %x, %v, %d", a, b, s, over, e)
			}
			rest := new(big.Int).Sub(value(a), value(b))
			d, under, e := Sub(a, b)
			if e != api.OK || len(d) != width || under != (rest.Sign() < 0) || value(d).Cmp(rest.Mod(rest, power(32*width))) != 0 {
				t.Fatalf("Sub(%x, %x) = %x, %v, %d", a, b, d, under, e)
			}
		}
	}
}

func TestAddAndSubRefuse(t *testing.T) {
	refused := func(a Nat, b Nat) {
		t.Helper()
		if s, over, e := Add(a, b); e != api.ErrSize || over || len(s) != 0 {
			t.Errorf("Add of %d and %d limbs: %v, %d", len(a), len(b), over, e)
		}
		if d, under, e := Sub(a, b); e != api.ErrSize || under || len(d) != 0 {
			t.Errorf("Sub of %d and %d limbs: %v, %d", len(a), len(b), under, e)
		}
	}
	for _, a := range noNumbers() {
		for _, b := range append(noNumbers(), Nat{1}, full(256)) {
			refused(a, b)
			refused(b, a)
		}
		refused(a, a)
	}
	for _, c := range [][2]int{{1, 2}, {2, 1}, {255, 256}, {256, 255}, {1, 256}} {
		refused(full(c[0]), full(c[1]))
		refused(make(Nat, c[0]), full(c[1]))
	}
}

func TestMulExamples(t *testing.T) {
	for _, c := range []struct{ a, b, want Nat }{
		{Nat{6}, Nat{7}, Nat{42, 0}},
		{Nat{top}, Nat{top}, Nat{1, top - 1}},
		{Nat{top, top}, Nat{top, top}, Nat{1, 0, top - 1, top}},
		{Nat{top, top}, Nat{top}, Nat{1, top, top - 1}},
		{Nat{1 << 31}, Nat{2, 0}, Nat{0, 1, 0}},
		{Nat{0, 0, 3}, Nat{0, 5}, Nat{0, 0, 0, 15, 0}},
		{Nat{0}, Nat{top, top}, Nat{0, 0, 0}},
		{Nat{1}, Nat{9, 8, 7}, Nat{9, 8, 7, 0}},
	} {
		if p, e := Mul(c.a, c.b); e != api.OK || !slices.Equal(p, c.want) {
			t.Errorf("Mul(%x, %x) = %x, %d", c.a, c.b, p, e)
		}
		if p, e := Mul(c.b, c.a); e != api.OK || !slices.Equal(p, c.want) {
			t.Errorf("Mul(%x, %x) = %x, %d", c.b, c.a, p, e)
		}
	}
}

func TestMulIsTheProduct(t *testing.T) {
	r := rand.New(rand.NewSource(44))
	for _, c := range [][2]int{{1, 1}, {1, 2}, {2, 1}, {3, 5}, {17, 4}, {64, 64}, {128, 128}, {1, 255}, {255, 1}, {200, 56}, {127, 128}} {
		pairs := [][2]Nat{{full(c[0]), full(c[1])}, {make(Nat, c[0]), full(c[1])}, {full(c[0]), small(1, c[1])}}
		for range 20 {
			pairs = append(pairs, [2]Nat{mixed(r, c[0]), mixed(r, c[1])})
		}
		for _, f := range pairs {
			p, e := Mul(f[0], f[1])
			if e != api.OK || len(p) != c[0]+c[1] || value(p).Cmp(new(big.Int).Mul(value(f[0]), value(f[1]))) != 0 {
				t.Fatalf("Mul(%x, %x) = %x, %d", f[0], f[1], p, e)
			}
		}
	}
}

func TestMulRefuses(t *testing.T) {
	refused := func(a Nat, b Nat) {
		t.Helper()
		if p, e := Mul(a, b); e != api.ErrSize || len(p) != 0 {
			t.Errorf("Mul of %d and %d limbs: %d limbs, %d", len(a), len(b), len(p), e)
		}
	}
	for _, a := range noNumbers() {
		for _, b := range append(noNumbers(), Nat{1}, full(128)) {
			refused(a, b)
			refused(b, a)
		}
	}
	for _, c := range [][2]int{{1, 256}, {256, 1}, {128, 129}, {129, 128}, {200, 57}, {256, 256}} {
		refused(full(c[0]), full(c[1]))
		refused(make(Nat, c[0]), make(Nat, c[1]))
	}
}

// P4.3

func TestCompareExamples(t *testing.T) {
	for _, c := range []struct {
		a, b Nat
		want int
	}{
		{Nat{5}, Nat{5}, 0},
		{Nat{5}, Nat{6}, -1},
		{Nat{5}, Nat{5, 0, 0}, 0},
		{Nat{5}, Nat{0, 1}, -1},
		{Nat{5}, Nat{6, 0, 0}, -1},
		{Nat{6}, Nat{5, 0, 0}, 1},
		{Nat{top, 1}, Nat{0, 2}, -1},
		{Nat{1, 2}, Nat{2, 1}, 1},
		{Nat{1, 7, 9}, Nat{2, 7, 9}, -1},
		{Nat{1, 7, 9}, Nat{1, 6, 9}, 1},
		{Nat{1 << 31}, Nat{1<<31 - 1}, 1},
		{Nat{0}, make(Nat, 256), 0},
		{small(1, 256), Nat{0}, 1},
		{Nat{top}, single(32*255, 256), -1},
		{full(256), full(255), 1},
	} {
		if got := Compare(c.a, c.b); got != c.want {
			t.Errorf("Compare(%x, %x) = %d", c.a, c.b, got)
		}
		if got := Compare(c.b, c.a); got != -c.want {
			t.Errorf("Compare(%x, %x) = %d", c.b, c.a, got)
		}
	}
}

func TestCompareIsTheOrder(t *testing.T) {
	r := rand.New(rand.NewSource(45))
	var all []Nat
	for _, width := range []int{1, 2, 3, 4, 255, 256} {
		all = append(all, make(Nat, width), small(1, width), full(width), small(top, width))
		for range 6 {
			n := mixed(r, width)
			all = append(all, n)
			// One that differs from it in one limb alone, any of them.
			other := slices.Clone(n)
			other[r.Intn(width)] ^= 1 << r.Intn(32)
			all = append(all, other, append(slices.Clone(n), make(Nat, 256-width)...))
		}
	}
	for _, a := range all {
		for _, b := range all {
			if got := Compare(a, b); got != value(a).Cmp(value(b)) {
				t.Fatalf("Compare(%x, %x) = %d", a, b, got)
			}
		}
	}
}

func TestCompareOfNoNumbers(t *testing.T) {
	for _, a := range noNumbers() {
		for _, b := range append(noNumbers(), Nat{0}, Nat{5}, full(256)) {
			if Compare(a, b) != 0 || Compare(b, a) != 0 {
				t.Errorf("%d and %d limbs: %d, %d", len(a), len(b), Compare(a, b), Compare(b, a))
			}
		}
	}
}

func TestBits(t *testing.T) {
	for _, n := range noNumbers() {
		if Bits(n) != 0 {
			t.Errorf("%d limbs: %d", len(n), Bits(n))
		}
	}
	for _, width := range widths() {
		if Bits(make(Nat, width)) != 0 || Bits(full(width)) != 32*width {
			t.Errorf("width %d: %d, %d", width, Bits(make(Nat, width)), Bits(full(width)))
		}
		for bit := range 32 * width {
			n := single(bit, width)
			if Bits(n) != bit+1 {
				t.Fatalf("2^%d of the width %d: %d", bit, width, Bits(n))
			}
			n[0] |= 1
			if Bits(n) != bit+1 {
				t.Fatalf("2^%d + 1 of the width %d: %d", bit, width, Bits(n))
			}
			if less, _, _ := Sub(single(bit, width), small(1, width)); Bits(less) != bit {
				t.Fatalf("2^%d - 1 of the width %d: %d", bit, width, Bits(less))
			}
		}
	}
}

// The rule of memory

// roomy is a number whose list has spare room, which holds something.
func roomy(n Nat) Nat { return append(slices.Clone(n), 0xaaaa, 0xbbbb, 0xcccc)[:len(n)] }

// spoil writes over a list and its spare room.
func spoil[T byte | uint32](list []T) {
	list = list[:cap(list)]
	for i := range list {
		list[i] ^= 0xa5
	}
}

func TestArgumentsStay(t *testing.T) {
	a, b := roomy(Nat{top, 7, 0}), roomy(Nat{9, top, top})
	in := append(make([]byte, 2, 20), 1, 2, 3)
	wasA, wasB, wasIn := slices.Clone(a[:cap(a)]), slices.Clone(b[:cap(b)]), slices.Clone(in[:cap(in)])
	From(in, 2)
	Bytes(a, 12)
	Add(a, b)
	Sub(a, b)
	Mul(a, b)
	Compare(a, b)
	Bits(a)
	if !slices.Equal(a[:cap(a)], wasA) || !slices.Equal(b[:cap(b)], wasB) || !bytes.Equal(in[:cap(in)], wasIn) {
		t.Error(a[:cap(a)], b[:cap(b)], in[:cap(in)])
	}
}

func TestAnswersAreNewMemory(t *testing.T) {
	a, b := roomy(Nat{top, 7, 0}), roomy(Nat{9, top, top})
	in := append(make([]byte, 2, 20), 1, 2, 3)
	type answers struct {
		from, sum, rest, product Nat
		text                     []byte
	}
	ask := func() answers {
		var all answers
		all.from, _ = From(in, 2)
		all.text, _ = Bytes(a, 12)
		all.sum, _, _ = Add(a, b)
		all.rest, _, _ = Sub(a, b)
		all.product, _ = Mul(a, b)
		return all
	}
	same := func(x answers, y answers) bool {
		return slices.Equal(x.from, y.from) && bytes.Equal(x.text, y.text) && slices.Equal(x.sum, y.sum) &&
			slices.Equal(x.rest, y.rest) && slices.Equal(x.product, y.product)
	}
	keep := func(x answers) answers {
		return answers{slices.Clone(x.from), slices.Clone(x.sum), slices.Clone(x.rest), slices.Clone(x.product), slices.Clone(x.text)}
	}
	first := ask()
	right := keep(first)
	second := ask()
	spoil(first.from)
	spoil(first.sum)
	spoil(first.rest)
	spoil(first.product)
	spoil(first.text)
	if !same(second, right) || !same(ask(), right) {
		t.Error("an answer shares memory with another one, or with an argument")
	}
	spoil(a)
	spoil(b)
	spoil(in)
	if !same(second, right) {
		t.Error("an answer hangs on an argument's memory")
	}
}

// A number with one that is itself.
func TestOneListTwice(t *testing.T) {
	a := Nat{top, 5}
	s, _, _ := Add(a, a)
	d, under, _ := Sub(a, a)
	p, _ := Mul(a, a)
	if !slices.Equal(s, Nat{top - 1, 11}) || !slices.Equal(d, Nat{0, 0}) || under || Compare(a, a) != 0 {
		t.Error(s, d, under)
	}
	if value(p).Cmp(new(big.Int).Mul(value(a), value(a))) != 0 || !slices.Equal(a, Nat{top, 5}) {
		t.Error(p, a)
	}
}

func TestDownReadsFromTheHighest(t *testing.T) {
	var got Nat
	for i, limb := range down(Nat{4, 5, 6}) {
		got = append(got, uint32(i), limb)
	}
	if !slices.Equal(got, Nat{2, 6, 1, 5, 0, 4}) {
		t.Error(got)
	}
	for i, limb := range down(Nat{4, 5, 6}) {
		if i != 2 || limb != 6 {
			t.Error(i, limb)
		}
		break
	}
}
