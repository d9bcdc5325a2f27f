package ring

import (
	"bytes"
	"math/big"
	"math/rand"
	"slices"
	"testing"

	"sallyport/api"
	"sallyport/limbs"
)

const top = 1<<32 - 1

// full is the greatest number of a width.
func full(width int) limbs.Nat { return slices.Repeat(limbs.Nat{top}, width) }

// small is a number below 2^32 of a width.
func small(x uint32, width int) limbs.Nat {
	n := make(limbs.Nat, width)
	n[0] = x
	return n
}

// single is 2^bit of a width.
func single(bit int, width int) limbs.Nat {
	n := make(limbs.Nat, width)
	n[bit/32] = 1 << (bit % 32)
	return n
}

// plus is n with so much added to its lowest limb, modulo 2^32.
func plus(n limbs.Nat, x uint32) limbs.Nat {
	m := slices.Clone(n)
	m[0] += x
	return m
}

// mixed is a number of a width, whose limbs are often 0 or the greatest one.
func mixed(r *rand.Rand, width int) limbs.Nat {
	n := make(limbs.Nat, width)
	for i := range n {
		switch r.Intn(4) {
		case 0:
			n[i] = top
		case 1, 2:
			n[i] = r.Uint32()
		}
	}
	return n
}

// value is the number that limbs are.
func value(n limbs.Nat) *big.Int {
	v := new(big.Int)
	for i, limb := range n {
		part := new(big.Int).SetUint64(uint64(limb))
		v.Add(v, part.Lsh(part, uint(32*i)))
	}
	return v
}

// natural is a number of a width.
func natural(t *testing.T, v *big.Int, width int) limbs.Nat {
	t.Helper()
	n, e := limbs.From(v.Bytes(), width)
	if e != api.OK {
		t.Fatal(v, width, e)
	}
	return n
}

// two is 2^bits.
func two(bits int) *big.Int { return new(big.Int).Lsh(big.NewInt(1), uint(bits)) }

// made is the ring of n.
func made(t *testing.T, n limbs.Nat) *Ring {
	t.Helper()
	r, e := New(n)
	if e != api.OK || r == nil {
		t.Fatalf("New(%x) = %d", n, e)
	}
	return r
}

// moduli are odd numbers above 1 of a width: the least, the greatest, those
// with noughts at the top, and some between.
func moduli(r *rand.Rand, width int) []limbs.Nat {
	all := []limbs.Nat{
		small(3, width), small(5, width), small(7, width), small(top, width), small(1<<31+1, width),
		full(width), plus(full(width), top-1), plus(single(32*width-1, width), 1),
	}
	for range 4 {
		n := mixed(r, width)
		n[0] |= 1
		all = append(all, n)
	}
	if width > 1 {
		all = append(all, plus(single(32, width), 1), plus(single(32*(width-1), width), 1))
		short := mixed(r, width)
		short[0] |= 1
		short[width-1] = 0
		all = append(all, short)
	}
	return slices.DeleteFunc(all, func(n limbs.Nat) bool { return limbs.Bits(n) == 1 })
}

// elements are those at the edges of n's ring, and some between.
func elements(t *testing.T, r *rand.Rand, n limbs.Nat) []limbs.Nat {
	t.Helper()
	width, v := len(n), value(n)
	all := []limbs.Nat{make(limbs.Nat, width), small(1, width), small(2, width)}
	all = append(all, natural(t, new(big.Int).Sub(v, big.NewInt(1)), width))
	all = append(all, natural(t, new(big.Int).Rsh(v, 1), width))
	all = append(all, natural(t, new(big.Int).Add(new(big.Int).Rsh(v, 1), big.NewInt(1)), width))
	for range 3 {
		all = append(all, natural(t, new(big.Int).Mod(value(mixed(r, width)), v), width))
	}
	return all
}

// strangers are numbers and lists that are no elements of n's ring.
func strangers(n limbs.Nat) []limbs.Nat {
	width := len(n)
	all := []limbs.Nat{nil, {}, n, make(limbs.Nat, width+1), small(1, width+1), make(limbs.Nat, width-1),
		make(limbs.Nat, 257), small(1, 300), append(slices.Clone(n), 0)}
	if !slices.Equal(n, full(width)) {
		all = append(all, full(width))
		above, _, _ := limbs.Add(n, small(1, width))
		all = append(all, above)
	}
	return all
}

func widths() []int { return []int{1, 2, 3, 4, 5, 16, 31, 32, 64, 127, 128} }

// P5.1

func TestExamples(t *testing.T) {
	r := made(t, limbs.Nat{7})
	if r.N0() != 1227133513 {
		t.Error(r.N0())
	}
	if rr := r.RR(); !slices.Equal(rr, limbs.Nat{2}) {
		t.Error(rr)
	}
	if p, e := r.Times(limbs.Nat{5}, limbs.Nat{6}); e != api.OK || !slices.Equal(p, limbs.Nat{2}) {
		t.Error(p, e)
	}
	if p, e := r.Power(limbs.Nat{3}, []byte{5}); e != api.OK || !slices.Equal(p, limbs.Nat{5}) {
		t.Error(p, e)
	}
	// 2^32 is 4 modulo 7, and 4 times 4 is 2, as 5 times 6 is.
	if p, e := r.Short(limbs.Nat{5}, limbs.Nat{6}); e != api.OK || !slices.Equal(p, limbs.Nat{4}) {
		t.Error(p, e)
	}
}

func TestNewRefuses(t *testing.T) {
	for _, c := range []struct {
		n    limbs.Nat
		want api.Errno
	}{
		{nil, api.ErrSize},
		{limbs.Nat{}, api.ErrSize},
		{make(limbs.Nat, 129), api.ErrSize},
		{small(1, 129), api.ErrSize},
		{small(2, 129), api.ErrSize},
		{small(7, 129), api.ErrSize},
		{full(129), api.ErrSize},
		{full(256), api.ErrSize},
		{full(257), api.ErrSize},
		{make(limbs.Nat, 300), api.ErrSize},
		{limbs.Nat{0}, api.ErrForm},
		{limbs.Nat{1}, api.ErrForm},
		{limbs.Nat{2}, api.ErrForm},
		{limbs.Nat{top - 1}, api.ErrForm},
		{limbs.Nat{1 << 31}, api.ErrForm},
		{limbs.Nat{0, 0}, api.ErrForm},
		{limbs.Nat{1, 0}, api.ErrForm},
		{limbs.Nat{0, 1}, api.ErrForm},
		{limbs.Nat{2, 1}, api.ErrForm},
		{limbs.Nat{top - 1, top}, api.ErrForm},
		{make(limbs.Nat, 128), api.ErrForm},
		{small(1, 128), api.ErrForm},
		{plus(full(128), top), api.ErrForm},
		{single(4095, 128), api.ErrForm},
	} {
		if r, e := New(c.n); e != c.want || r != nil {
			t.Errorf("New of %d limbs, %x: %v, %d", len(c.n), c.n, r, e)
		}
	}
}

func TestNewTakesOddNumbers(t *testing.T) {
	for _, n := range []limbs.Nat{{3}, {5}, {top}, {3, 0}, {1, 1}, {1, 0, 1}, {top, top}, small(3, 128), full(128), plus(single(4095, 128), 1), full(127)} {
		if r, e := New(n); e != api.OK || r == nil {
			t.Errorf("New(%x) = %d", n, e)
		}
	}
}

// N0 hangs on the lowest limb alone, and all of that may be odd numbers.
func TestN0(t *testing.T) {
	r := rand.New(rand.NewSource(51))
	lowest := []uint32{3, 5, 7, 9, 1<<31 - 1, 1<<31 + 1, 1<<16 + 1, 1<<16 - 1, top, top - 2, 0x55555555, 0xaaaaaaab}
	for bit := 1; bit < 32; bit++ {
		lowest = append(lowest, 1<<bit+1)
	}
	for range 1000 {
		lowest = append(lowest, r.Uint32()|1)
	}
	for _, low := range lowest {
		want := new(big.Int).ModInverse(big.NewInt(int64(low)), two(32))
		want.Sub(two(32), want)
		for _, n := range []limbs.Nat{{low}, {low, 0}, {low, top}, {low, 5, 0}} {
			if got := made(t, n).N0(); big.NewInt(int64(got)).Cmp(want) != 0 {
				t.Fatalf("N0 of %x: %d", n, got)
			}
		}
	}
	// The lowest limb may be 1, where the number isn't.
	for _, n := range []limbs.Nat{{1, 1}, plus(single(4095, 128), 1)} {
		if got := made(t, n).N0(); got != top {
			t.Errorf("N0 of %x: %d", n, got)
		}
	}
	// The least and the greatest are within int, and not below 0.
	if got := made(t, full(128)).N0(); got != 1 {
		t.Error(got)
	}
}

func TestRR(t *testing.T) {
	r := rand.New(rand.NewSource(52))
	for width := 1; width <= 128; width++ {
		for _, n := range moduli(r, width) {
			rr := made(t, n).RR()
			want := new(big.Int).Mod(two(64*width), value(n))
			if len(rr) != width || value(rr).Cmp(want) != 0 {
				t.Fatalf("RR of %x: %x", n, rr)
			}
		}
	}
}

func TestRROfSmallNumbers(t *testing.T) {
	for n := uint32(3); n < 2000; n += 2 {
		for width := 1; width <= 3; width++ {
			rr := made(t, small(n, width)).RR()
			want := new(big.Int).Mod(two(64*width), big.NewInt(int64(n)))
			if len(rr) != width || value(rr).Cmp(want) != 0 {
				t.Fatalf("RR of %d, width %d: %x", n, width, rr)
			}
		}
	}
}

// P5.2

func TestProducts(t *testing.T) {
	r := rand.New(rand.NewSource(53))
	for _, width := range widths() {
		for _, n := range moduli(r, width) {
			g, v := made(t, n), value(n)
			less := new(big.Int).ModInverse(two(32*width), v)
			all := elements(t, r, n)
			for _, a := range all {
				for _, b := range all {
					want := new(big.Int).Mul(value(a), value(b))
					want.Mod(want, v)
					p, e := g.Times(a, b)
					if e != api.OK || len(p) != width || value(p).Cmp(want) != 0 {
						t.Fatalf("n %x: Times(%x, %x) = %x, %d", n, a, b, p, e)
					}
					want.Mul(want, less)
					want.Mod(want, v)
					s, e := g.Short(a, b)
					if e != api.OK || len(s) != width || value(s).Cmp(want) != 0 {
						t.Fatalf("n %x: Short(%x, %x) = %x, %d", n, a, b, s, e)
					}
				}
			}
		}
	}
}

// All products of the rings of small numbers.
func TestProductsOfSmallRings(t *testing.T) {
	for n := uint32(3); n < 40; n += 2 {
		g := made(t, limbs.Nat{n})
		for a := range n {
			for b := range n {
				if p, e := g.Times(limbs.Nat{a}, limbs.Nat{b}); e != api.OK || !slices.Equal(p, limbs.Nat{a * b % n}) {
					t.Fatalf("%d times %d modulo %d: %v, %d", a, b, n, p, e)
				}
				s, e := g.Short(limbs.Nat{a}, limbs.Nat{b})
				if e != api.OK || len(s) != 1 || s[0] >= n || uint64(s[0])<<32%uint64(n) != uint64(a*b%n) {
					t.Fatalf("%d short times %d modulo %d: %v, %d", a, b, n, s, e)
				}
			}
		}
	}
}

// The square of the greatest element is 1, wherever the sum goes over.
func TestGreatestElement(t *testing.T) {
	for width := 1; width <= 128; width++ {
		for _, n := range []limbs.Nat{full(width), small(3, width), plus(single(32*width-1, width), 1)} {
			g := made(t, n)
			a := plus(n, top) // n less 1: its lowest limb is odd
			if p, e := g.Times(a, a); e != api.OK || !slices.Equal(p, small(1, width)) {
				t.Errorf("n %x: %x, %d", n, p, e)
			}
			for exp, want := range []limbs.Nat{small(1, width), a, small(1, width), a} {
				if p, e := g.Power(a, []byte{byte(exp)}); e != api.OK || !slices.Equal(p, want) {
					t.Errorf("n %x to %d: %x, %d", n, exp, p, e)
				}
			}
		}
	}
}

func TestPowers(t *testing.T) {
	r := rand.New(rand.NewSource(54))
	for _, width := range []int{1, 2, 3, 4, 16, 33, 128} {
		for _, n := range moduli(r, width) {
			g, v := made(t, n), value(n)
			exps := [][]byte{nil, {}, {0}, {1}, {2}, {3}, {128}, {255}, {1, 0}, {1, 0, 1}, {0, 0, 1, 0, 1}, {0x80, 0, 0, 0}, {1, 0, 0, 0, 0}}
			random := make([]byte, 1+r.Intn(9))
			r.Read(random)
			exps = append(exps, random)
			for _, a := range elements(t, r, n) {
				for _, exp := range exps {
					want := new(big.Int).Exp(value(a), new(big.Int).SetBytes(exp), v)
					p, e := g.Power(a, exp)
					if e != api.OK || len(p) != width || value(p).Cmp(want) != 0 {
						t.Fatalf("n %x: Power(%x, %x) = %x, %d", n, a, exp, p, e)
					}
				}
			}
		}
	}
}

// All powers in the ring of a prime, each exponent up to 2^16 of one element.
func TestPowersOfSmallRings(t *testing.T) {
	g := made(t, limbs.Nat{65537})
	want := uint64(1)
	for exp := range 1 << 16 {
		p, e := g.Power(limbs.Nat{3}, []byte{byte(exp >> 8), byte(exp)})
		if e != api.OK || !slices.Equal(p, limbs.Nat{uint32(want)}) {
			t.Fatalf("3 to %d: %v, %d", exp, p, e)
		}
		want = want * 3 % 65537
	}
	for a := uint32(1); a < 65537; a += 97 {
		if p, e := g.Power(limbs.Nat{a}, []byte{1, 0, 0}); e != api.OK || !slices.Equal(p, limbs.Nat{1}) {
			t.Fatalf("%d to 65536: %v, %d", a, p, e)
		}
	}
}

// What is to the power of 0 is 1, 0 too, however many noughts the exponent
// has.
func TestPowerOfNought(t *testing.T) {
	for _, n := range []limbs.Nat{{3}, {1, 1}, small(3, 128), full(128)} {
		g, width := made(t, n), len(n)
		for _, a := range []limbs.Nat{make(limbs.Nat, width), small(1, width), small(2, width), plus(n, top)} {
			for _, noughts := range []int{0, 1, 4, 1023, 1024} {
				if p, e := g.Power(a, make([]byte, noughts)); e != api.OK || !slices.Equal(p, small(1, width)) {
					t.Errorf("n %x: %x to %d noughts: %x, %d", n, a, noughts, p, e)
				}
			}
		}
	}
}

func TestPowerRoom(t *testing.T) {
	r := rand.New(rand.NewSource(55))
	random := make([]byte, 1024)
	r.Read(random)
	for _, n := range []limbs.Nat{{1000000007}, {top, top, 5}, plus(single(511, 16), 75)} {
		g, width := made(t, n), len(n)
		a := small(1234567, width)
		for _, exp := range [][]byte{
			bytes.Repeat([]byte{255}, 1024), random, random[1:], random[:1021],
			append([]byte{1}, make([]byte, 1023)...), append([]byte{128}, make([]byte, 1023)...),
			append(make([]byte, 1023), 5), append(make([]byte, 1000), random[:24]...),
		} {
			want := new(big.Int).Exp(value(a), new(big.Int).SetBytes(exp), value(n))
			if p, e := g.Power(a, exp); e != api.OK || len(p) != width || value(p).Cmp(want) != 0 {
				t.Errorf("n %x, %d bytes: %x, %d", n, len(exp), p, e)
			}
		}
		for _, exp := range [][]byte{make([]byte, 1025), append(make([]byte, 1024), 1), append(random, 1), bytes.Repeat([]byte{255}, 1025), make([]byte, 1<<16)} {
			for _, b := range []limbs.Nat{a, make(limbs.Nat, width), small(1, width)} {
				if p, e := g.Power(b, exp); e != api.ErrBig || len(p) != 0 {
					t.Errorf("n %x, %d bytes: %x, %d", n, len(exp), p, e)
				}
			}
		}
	}
}

func TestPowerOfTheGreatestWidth(t *testing.T) {
	n := full(128)
	r := rand.New(rand.NewSource(56))
	exp := make([]byte, 1024)
	r.Read(exp)
	exp[0] |= 128
	a := natural(t, new(big.Int).Mod(value(mixed(r, 128)), value(n)), 128)
	want := new(big.Int).Exp(value(a), new(big.Int).SetBytes(exp), value(n))
	if p, e := made(t, n).Power(a, exp); e != api.OK || len(p) != 128 || value(p).Cmp(want) != 0 {
		t.Error(e)
	}
}

func TestNoElements(t *testing.T) {
	for _, n := range []limbs.Nat{{3}, {7}, {top}, {1, 1}, {3, 0}, {top, top}, {5, 0, 9}, small(3, 128), full(128), plus(single(4095, 128), 1)} {
		g, width := made(t, n), len(n)
		good := []limbs.Nat{make(limbs.Nat, width), small(1, width), plus(n, top)}
		for _, bad := range strangers(n) {
			for _, other := range append(good, bad, n, nil) {
				for _, pair := range [][2]limbs.Nat{{bad, other}, {other, bad}} {
					if p, e := g.Short(pair[0], pair[1]); e != api.ErrRange || len(p) != 0 {
						t.Errorf("n %x: Short(%x, %x) = %x, %d", n, pair[0], pair[1], p, e)
					}
					if p, e := g.Times(pair[0], pair[1]); e != api.ErrRange || len(p) != 0 {
						t.Errorf("n %x: Times(%x, %x) = %x, %d", n, pair[0], pair[1], p, e)
					}
				}
			}
			// What is no element is named ahead of what is too big.
			for _, exp := range [][]byte{nil, {0}, {1}, {1, 0, 1}, make([]byte, 1024), make([]byte, 1025)} {
				if p, e := g.Power(bad, exp); e != api.ErrRange || len(p) != 0 {
					t.Errorf("n %x: Power(%x, %d bytes) = %x, %d", n, bad, len(exp), p, e)
				}
			}
		}
		for _, a := range good {
			for _, b := range good {
				if _, e := g.Times(a, b); e != api.OK {
					t.Errorf("n %x: Times(%x, %x): %d", n, a, b, e)
				}
			}
		}
	}
}

// What is refused changes nothing of a ring.
func TestRefusedChangesNothing(t *testing.T) {
	n := limbs.Nat{top, 5, 9}
	g := made(t, n)
	a, exp := limbs.Nat{3, 4, 5}, []byte{9, 8, 7}
	want, _ := g.Power(a, exp)
	g.Short(n, a)
	g.Times(a, n)
	g.Power(n, exp)
	g.Power(a, make([]byte, 1025))
	if p, e := g.Power(a, exp); e != api.OK || !slices.Equal(p, want) {
		t.Error(p, e)
	}
	if rr := g.RR(); value(rr).Cmp(new(big.Int).Mod(two(192), value(n))) != 0 {
		t.Error(rr)
	}
}

// The rule of memory

// spoil writes over a list, its spare room too.
func spoil(n limbs.Nat) {
	n = n[:cap(n)]
	for i := range n {
		n[i] = 0xdeadbeef
	}
}

// roomy is a list with spare room that is filled.
func roomy(n limbs.Nat) limbs.Nat {
	wide := append(slices.Clone(n), full(8)...)
	return wide[:len(n)]
}

// intact says whether a list that roomy made is as it was, its room too.
func intact(n limbs.Nat, want limbs.Nat) bool {
	return slices.Equal(n, want) && slices.Equal(n[len(n):len(n)+8], full(8))
}

func TestArgumentsAreLeft(t *testing.T) {
	for _, n := range []limbs.Nat{{7}, {top, top}, {9, 0, 5, 0}, full(128)} {
		width := len(n)
		modulus := roomy(n)
		g := made(t, modulus)
		a, b := plus(n, top), small(2, width)
		left, right := roomy(a), roomy(b)
		exp := append([]byte{1, 0, 1}, 77, 77)[:3]
		g.Short(left, right)
		g.Times(left, right)
		g.Power(left, exp)
		g.Power(left, nil)
		g.Power(right, []byte{1})
		g.RR()
		if !intact(modulus, n) || !intact(left, a) || !intact(right, b) || !bytes.Equal(exp[:5], []byte{1, 0, 1, 77, 77}) {
			t.Errorf("n %x: an argument was changed", n)
		}
	}
}

func TestNumbersAreNotKept(t *testing.T) {
	for _, n := range []limbs.Nat{{7}, {top, top}, {9, 0, 5, 0}, full(128)} {
		width := len(n)
		given := roomy(n)
		g := made(t, given)
		spoil(given)
		n0, rr := g.N0(), g.RR()
		if uint32(n0)*n[0] != top || value(rr).Cmp(new(big.Int).Mod(two(64*width), value(n))) != 0 {
			t.Errorf("n %x: %d, %x", n, n0, rr)
		}
		a, b := small(2, width), plus(n, top)
		want, _ := g.Times(a, b)
		kept := slices.Clone(want)
		spoil(a)
		spoil(b)
		if !slices.Equal(want, kept) {
			t.Errorf("n %x: an answer has an argument's memory", n)
		}
		if p, e := g.Times(small(2, width), plus(n, top)); e != api.OK || !slices.Equal(p, kept) {
			t.Errorf("n %x: %x, %d", n, p, e)
		}
	}
}

// Answers written over change neither the ring nor one another.
func TestAnswersAreNew(t *testing.T) {
	for _, n := range []limbs.Nat{{7}, {top, top}, {9, 0, 5, 0}, full(128)} {
		g, width := made(t, n), len(n)
		ask := func() []limbs.Nat {
			a, b := small(2, width), plus(n, top)
			all := []limbs.Nat{g.RR(), g.RR()}
			for _, x := range []limbs.Nat{a, b, small(1, width), make(limbs.Nat, width)} {
				short, _ := g.Short(x, b)
				times, _ := g.Times(x, b)
				nought, _ := g.Power(x, nil)
				one, _ := g.Power(x, []byte{1})
				more, _ := g.Power(x, []byte{1, 0, 1})
				all = append(all, short, times, nought, one, more)
			}
			return all
		}
		first, want := ask(), ask()
		for i, p := range first {
			if !slices.Equal(p, want[i]) {
				t.Errorf("n %x: answer %d is %x, then %x", n, i, want[i], p)
			}
			spoil(p)
		}
		for i, p := range ask() {
			if !slices.Equal(p, want[i]) {
				t.Errorf("n %x: answer %d is %x, behind one written over %x", n, i, want[i], p)
			}
		}
	}
}

// Two rings have nothing in common.
func TestRingsAreApart(t *testing.T) {
	five, seven := made(t, limbs.Nat{5}), made(t, limbs.Nat{7})
	for range 3 {
		if p, e := five.Power(limbs.Nat{3}, []byte{3}); e != api.OK || !slices.Equal(p, limbs.Nat{2}) {
			t.Error(p, e)
		}
		if p, e := seven.Power(limbs.Nat{3}, []byte{3}); e != api.OK || !slices.Equal(p, limbs.Nat{6}) {
			t.Error(p, e)
		}
	}
}
