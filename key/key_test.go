package key

import (
	"bytes"
	"crypto/sha256"
	"encoding/binary"
	"math/big"
	"math/rand"
	"testing"

	"sallyport/api"
)

func sizes() []int { return []int{64, 128, 192, 256, 320, 384, 448, 512} }

// mixed are so many bytes, which are often 0 or 255.
func mixed(r *rand.Rand, size int) []byte {
	b := make([]byte, size)
	for i := range b {
		switch r.Intn(4) {
		case 0:
			b[i] = 255
		case 1, 2:
			b[i] = byte(r.Intn(256))
		}
	}
	return b
}

// odd are the bytes of a modulus: b with the highest and the lowest bit set.
func odd(b []byte) []byte {
	b = bytes.Clone(b)
	b[0] |= 128
	b[len(b)-1] |= 1
	return b
}

// moduli are those of a size: the least, the greatest, and some between.
func moduli(r *rand.Rand, size int) [][]byte {
	all := [][]byte{odd(make([]byte, size)), bytes.Repeat([]byte{255}, size)}
	for range 3 {
		all = append(all, odd(mixed(r, size)))
	}
	return all
}

func value(b []byte) *big.Int { return new(big.Int).SetBytes(b) }

// number is n in so many bytes.
func number(n *big.Int, size int) []byte { return n.FillBytes(make([]byte, size)) }

// small is a number below 256 in so many bytes.
func small(n byte, size int) []byte {
	b := make([]byte, size)
	b[size-1] = n
	return b
}

// plus is b and so much more, in as many bytes.
func plus(b []byte, more int64) []byte {
	return number(new(big.Int).Add(value(b), big.NewInt(more)), len(b))
}

// layout are the bytes of a modulus's key, reckoned by the library's numbers.
func layout(modulus []byte) []byte {
	n, size := value(modulus), len(modulus)
	limb := new(big.Int).Lsh(big.NewInt(1), 32)
	n0 := new(big.Int).ModInverse(n, limb)
	n0.Sub(limb, n0)
	rr := new(big.Int).Lsh(big.NewInt(1), uint(16*size))
	b := binary.BigEndian.AppendUint32(nil, uint32(8*size))
	b = append(b, number(n0, 4)...)
	b = append(b, modulus...)
	return append(b, number(rr.Mod(rr, n), size)...)
}

// made is the key of a modulus.
func made(t *testing.T, modulus []byte) *Key {
	t.Helper()
	k, e := Make(modulus)
	if e != api.OK || k == nil {
		t.Fatalf("Make(%x): %d", modulus, e)
	}
	return k
}

// isKeyOf checks all that a key tells of itself.
func isKeyOf(t *testing.T, k *Key, modulus []byte) {
	t.Helper()
	b := layout(modulus)
	sum := sha256.Sum256(b)
	if k.Size() != len(modulus) || !bytes.Equal(k.Modulus(), modulus) {
		t.Fatalf("the modulus of %x: %d, %x", modulus, k.Size(), k.Modulus())
	}
	if !bytes.Equal(k.Bytes(), b) {
		t.Fatalf("the bytes of %x: %x", modulus, k.Bytes())
	}
	if !bytes.Equal(k.Name(), sum[:]) {
		t.Fatalf("the name of %x: %x", modulus, k.Name())
	}
}

// P6.1

func TestExample(t *testing.T) {
	if b := made(t, odd(make([]byte, 64))).Bytes(); len(b) != 136 {
		t.Error(len(b))
	}
}

func TestMake(t *testing.T) {
	r := rand.New(rand.NewSource(61))
	for _, size := range sizes() {
		for _, m := range moduli(r, size) {
			isKeyOf(t, made(t, m), m)
		}
	}
}

// N0 has its four bytes, however small it is, and RR as many as the modulus.
func TestBytesKeepTheirNoughts(t *testing.T) {
	full := bytes.Repeat([]byte{255}, 64)
	b := made(t, full).Bytes()
	if !bytes.Equal(b[:8], []byte{0, 0, 2, 0, 0, 0, 0, 1}) {
		t.Errorf("%x", b[:8])
	}
	// 2^512 is 1 modulo 2^512 - 1.
	if !bytes.Equal(b[72:], small(1, 64)) {
		t.Errorf("%x", b[72:])
	}
	b = made(t, odd(make([]byte, 512))).Bytes()
	if len(b) != 1032 || !bytes.Equal(b[:8], []byte{0, 0, 16, 0, 255, 255, 255, 255}) {
		t.Errorf("%d, %x", len(b), b[:8])
	}
}

func TestMakeBits(t *testing.T) {
	if k, e := Make(nil); e != api.ErrBits || k != nil {
		t.Error(k, e)
	}
	for size := range 600 {
		right := size >= 64 && size <= 512 && size%64 == 0
		for _, b := range [][]byte{make([]byte, size), bytes.Repeat([]byte{255}, size), bytes.Repeat([]byte{254}, size)} {
			k, e := Make(b)
			want := api.ErrBits
			if right {
				want = api.ErrKey
			}
			if right && b[0] == 255 {
				want = api.OK
			}
			if e != want || (k != nil) != (want == api.OK) {
				t.Errorf("%d bytes of %v: %d", size, b[:min(size, 1)], e)
			}
		}
	}
	for _, size := range []int{1024, 4096, 1 << 16} {
		if k, e := Make(bytes.Repeat([]byte{255}, size)); e != api.ErrBits || k != nil {
			t.Error(size, e)
		}
	}
}

func TestMakeKey(t *testing.T) {
	r := rand.New(rand.NewSource(62))
	for _, size := range sizes() {
		for _, m := range moduli(r, size) {
			low, even := bytes.Clone(m), bytes.Clone(m)
			low[0] &= 127
			even[size-1] &= 254
			both := bytes.Clone(low)
			both[size-1] &= 254
			for _, b := range [][]byte{low, even, both, make([]byte, size), small(1, size)} {
				if k, e := Make(b); e != api.ErrKey || k != nil {
					t.Errorf("Make(%x): %d", b, e)
				}
			}
		}
	}
}

// P6.2

func TestParse(t *testing.T) {
	r := rand.New(rand.NewSource(63))
	for _, size := range sizes() {
		for _, m := range moduli(r, size) {
			b := layout(m)
			k, e := Parse(b)
			if e != api.OK || k == nil {
				t.Fatalf("Parse(%x): %d", b, e)
			}
			isKeyOf(t, k, m)
			sig := small(2, size)
			want, _ := made(t, m).Open(sig)
			if got, e := k.Open(sig); e != api.OK || !bytes.Equal(got, want) {
				t.Fatalf("%x, %d", got, e)
			}
		}
	}
}

// refused checks that Parse answers an error, and no key.
func refused(t *testing.T, b []byte, want api.Errno) {
	t.Helper()
	if k, e := Parse(b); e != want || k != nil {
		t.Fatalf("Parse of %d bytes, %x: %d, not %d", len(b), b, e, want)
	}
}

func TestParseLength(t *testing.T) {
	refused(t, nil, api.ErrEnd)
	for _, size := range []int{64, 128, 512} {
		b := layout(bytes.Repeat([]byte{255}, size))
		for n := range b {
			refused(t, b[:n], api.ErrEnd)
		}
		for _, more := range []int{1, 2, 8, size, 2 * size, 4096} {
			refused(t, append(bytes.Clone(b), make([]byte, more)...), api.ErrForm)
		}
		refused(t, append(bytes.Clone(b), b...), api.ErrForm)
	}
}

// withBits is b with another number of bits.
func withBits(b []byte, bits uint32) []byte {
	b = bytes.Clone(b)
	binary.BigEndian.PutUint32(b, bits)
	return b
}

func TestParseBits(t *testing.T) {
	b := layout(odd(make([]byte, 128)))
	for bits := range uint32(5200) {
		want := api.ErrBits
		switch {
		case bits == 512:
			want = api.ErrForm
		case bits == 1024:
			continue
		case bits > 1024 && bits <= 4096 && bits%512 == 0:
			want = api.ErrEnd
		}
		refused(t, withBits(b, bits), want)
	}
	for _, bits := range []uint32{8192, 1 << 16, 1<<16 + 512, 1<<24 + 1024, 1<<31 - 1, 1 << 31, 1<<31 + 1024, 1<<32 - 512, 1<<32 - 1} {
		refused(t, withBits(b, bits), api.ErrBits)
	}
}

// Each bit behind the number of bits is held against what it must be.
func TestParseEachBit(t *testing.T) {
	b := layout(odd(mixed(rand.New(rand.NewSource(64)), 64)))
	for at := 4; at < len(b); at++ {
		for bit := range 8 {
			c := bytes.Clone(b)
			c[at] ^= 1 << bit
			refused(t, c, api.ErrKey)
		}
	}
}

func TestParseKey(t *testing.T) {
	r := rand.New(rand.NewSource(65))
	for _, size := range sizes() {
		m := odd(mixed(r, size))
		b := layout(m)
		head, n0, rr := b[:4], b[4:8], b[8+size:]
		build := func(n0 []byte, modulus []byte, rr []byte) []byte {
			return bytes.Join([][]byte{head, n0, modulus, rr}, nil)
		}
		low, even := bytes.Clone(m), bytes.Clone(m)
		low[0] &= 127
		even[size-1] &= 254
		other := layout(odd(mixed(r, size)))
		for _, c := range [][]byte{
			build(make([]byte, 4), m, rr),
			build(bytes.Repeat([]byte{255}, 4), m, rr),
			build(other[4:8], m, rr),
			build(n0, m, make([]byte, size)),
			build(n0, m, m),
			build(n0, m, other[8+size:]),
			build(n0, other[8:8+size], rr),
			build(n0, low, rr),
			build(n0, even, rr),
			build(n0, make([]byte, size), make([]byte, size)),
			// N0 and RR are right, but the number has a bit less.
			layout(low),
		} {
			if bytes.Equal(c, b) {
				t.Fatal("these were to be no key's")
			}
			refused(t, c, api.ErrKey)
		}
	}
}

// RR is below the modulus: another number that is the same modulo it is wrong.
func TestParseRRBelowTheModulus(t *testing.T) {
	for _, size := range sizes() {
		m := odd(make([]byte, size))
		b := layout(m)
		more := new(big.Int).Add(value(b[8+size:]), value(m))
		refused(t, append(b[:8+size], number(more, size)...), api.ErrKey)
	}
}

func TestParseErrorsInTheirOrder(t *testing.T) {
	bad := bytes.Repeat([]byte{254}, 64) // even: no modulus
	whole := append([]byte{0, 0, 2, 0, 0, 0, 0, 0}, append(bad, bad...)...)
	refused(t, whole, api.ErrKey)
	refused(t, append(whole, 0), api.ErrForm)
	refused(t, whole[:135], api.ErrEnd)
	refused(t, whole[:8], api.ErrEnd)
	// A wrong number of bits is named ahead of bytes that lack or are left
	// over, but not ahead of a head that isn't whole.
	refused(t, withBits(whole, 511), api.ErrBits)
	refused(t, withBits(append(whole, 0), 511), api.ErrBits)
	refused(t, withBits(whole[:8], 511), api.ErrBits)
	refused(t, withBits(whole[:8], 0), api.ErrBits)
	refused(t, withBits(whole[:7], 511), api.ErrEnd)
	refused(t, make([]byte, 7), api.ErrEnd)
	refused(t, make([]byte, 8), api.ErrBits)
}

// P6.3

// elements are numbers below a modulus: those at the edges, and some between.
func elements(r *rand.Rand, m []byte) [][]byte {
	size, n := len(m), value(m)
	all := [][]byte{make([]byte, size), small(1, size), small(2, size), plus(m, -1), plus(m, -2)}
	for range 2 {
		all = append(all, number(new(big.Int).Mod(value(mixed(r, size)), n), size))
	}
	return all
}

// power is a to an exponent, reckoned by the library's numbers.
func power(a []byte, exp []byte, m []byte) []byte {
	n := value(m)
	p := new(big.Int).Exp(value(a), value(exp), n)
	return number(p.Mod(p, n), len(m))
}

func TestOpen(t *testing.T) {
	r := rand.New(rand.NewSource(66))
	for _, size := range sizes() {
		for _, m := range moduli(r, size) {
			k := made(t, m)
			for _, sig := range elements(r, m) {
				want := power(sig, []byte{1, 0, 1}, m)
				if got, e := k.Open(sig); e != api.OK || !bytes.Equal(got, want) {
					t.Fatalf("modulus %x: Open(%x) = %x, %d", m, sig, got, e)
				}
			}
			isKeyOf(t, k, m)
		}
	}
}

// At 0, 1 and the number just below, the answers need no reckoning.
func TestOpenAtTheEdges(t *testing.T) {
	for _, size := range []int{64, 512} {
		m := odd(make([]byte, size))
		k := made(t, m)
		for _, sig := range [][]byte{make([]byte, size), small(1, size), plus(m, -1)} {
			if got, e := k.Open(sig); e != api.OK || !bytes.Equal(got, sig) {
				t.Errorf("%d: Open(%x) = %x, %d", size, sig, got, e)
			}
		}
	}
}

// opened checks that both ways of a block answer an error, and no bytes.
func opened(t *testing.T, m []byte, block []byte, want api.Errno) {
	t.Helper()
	if got, e := made(t, m).Open(block); e != want || len(got) != 0 {
		t.Errorf("modulus %x: Open(%x) = %x, %d", m, block, got, e)
	}
	for _, secret := range [][]byte{nil, {0}, {1}, {1, 0, 1}, make([]byte, 1025)} {
		if got, e := Close(m, secret, block); e != want || len(got) != 0 {
			t.Errorf("modulus %x: Close(%d bytes, %x) = %x, %d", m, len(secret), block, got, e)
		}
	}
}

func TestBlockSize(t *testing.T) {
	for _, size := range []int{64, 128, 512} {
		m := odd(make([]byte, size))
		opened(t, m, nil, api.ErrSize)
		for _, n := range []int{0, 1, size / 2, size - 1, size + 1, 2 * size, 576, 4096} {
			if n == size {
				continue
			}
			// Neither noughts ahead nor too great a number makes another error.
			opened(t, m, make([]byte, n), api.ErrSize)
			opened(t, m, bytes.Repeat([]byte{255}, n), api.ErrSize)
		}
		opened(t, m, append([]byte{0}, m...), api.ErrSize)
	}
}

func TestBlockRange(t *testing.T) {
	r := rand.New(rand.NewSource(67))
	for _, size := range sizes() {
		for _, m := range moduli(r, size) {
			opened(t, m, m, api.ErrRange)
			full := bytes.Repeat([]byte{255}, size)
			opened(t, m, full, api.ErrRange)
			if !bytes.Equal(m, full) {
				opened(t, m, plus(m, 1), api.ErrRange)
			}
		}
	}
}

// secrets are exponents: 0, small ones, some with noughts ahead, and long ones.
func secrets(r *rand.Rand) [][]byte {
	return [][]byte{nil, {}, {0}, make([]byte, 1024), {1}, {2}, {3}, {1, 0, 1}, {0, 0, 0, 1, 0, 1}, {255}, {128, 0},
		append(make([]byte, 1023), 3), mixed(r, 8), append(make([]byte, 90), mixed(r, 7)...)}
}

func TestClose(t *testing.T) {
	r := rand.New(rand.NewSource(68))
	for _, size := range []int{64, 128, 512} {
		for _, m := range moduli(r, size) {
			for _, block := range elements(r, m) {
				for _, secret := range secrets(r) {
					want := power(block, secret, m)
					if got, e := Close(m, secret, block); e != api.OK || !bytes.Equal(got, want) {
						t.Fatalf("modulus %x: Close(%x, %x) = %x, %d", m, secret, block, got, e)
					}
				}
			}
		}
	}
}

// A block to the power of 0 is 1, that of noughts too.
func TestCloseOfNought(t *testing.T) {
	for _, size := range []int{64, 512} {
		m := odd(make([]byte, size))
		for _, block := range [][]byte{make([]byte, size), small(1, size), plus(m, -1)} {
			for _, secret := range [][]byte{nil, {}, {0}, make([]byte, 1024)} {
				if got, e := Close(m, secret, block); e != api.OK || !bytes.Equal(got, small(1, size)) {
					t.Errorf("%d: %x, %d", size, got, e)
				}
			}
		}
	}
}

func TestCloseOfLongSecrets(t *testing.T) {
	r := rand.New(rand.NewSource(69))
	for _, size := range []int{64, 192} {
		m := odd(mixed(r, size))
		block := small(7, size)
		for _, secret := range [][]byte{bytes.Repeat([]byte{255}, 1024), append([]byte{1}, mixed(r, 1023)...), mixed(r, 1000)} {
			if got, e := Close(m, secret, block); e != api.OK || !bytes.Equal(got, power(block, secret, m)) {
				t.Errorf("%d bytes: %x, %d", len(secret), got, e)
			}
		}
		// Noughts ahead are counted.
		for _, secret := range [][]byte{make([]byte, 1025), small(1, 1025), bytes.Repeat([]byte{255}, 1025), make([]byte, 1<<16)} {
			for _, block := range [][]byte{block, make([]byte, size), small(1, size)} {
				if got, e := Close(m, secret, block); e != api.ErrBig || len(got) != 0 {
					t.Errorf("%d bytes: %x, %d", len(secret), got, e)
				}
			}
		}
	}
}

// prime is a prime of so many bits, the highest two of which are 1, as the
// numbers of r have it; 65537 has an inverse modulo the number just below.
func prime(r *rand.Rand, bits int) *big.Int {
	for {
		b := make([]byte, bits/8)
		r.Read(b)
		b[0] |= 192
		b[len(b)-1] |= 1
		p := value(b)
		below := new(big.Int).Sub(p, big.NewInt(1))
		if below.Mod(below, big.NewInt(65537)).Sign() != 0 && p.ProbablyPrime(20) {
			return p
		}
	}
}

// pair is a modulus and its secret.
func pair(r *rand.Rand, size int) (modulus []byte, secret []byte) {
	p, q := prime(r, 4*size), prime(r, 4*size)
	one := big.NewInt(1)
	turns := new(big.Int).Mul(new(big.Int).Sub(p, one), new(big.Int).Sub(q, one))
	return number(new(big.Int).Mul(p, q), size), number(new(big.Int).ModInverse(big.NewInt(65537), turns), size)
}

// What is closed by a secret is opened by its key, and the other way round.
func TestCloseAndOpen(t *testing.T) {
	r := rand.New(rand.NewSource(70))
	for _, size := range []int{64, 128, 256} {
		m, secret := pair(r, size)
		k := made(t, m)
		for _, block := range elements(r, m) {
			sig, e := Close(m, secret, block)
			if e != api.OK {
				t.Fatal(e)
			}
			if got, e := k.Open(sig); e != api.OK || !bytes.Equal(got, block) {
				t.Errorf("%d: %x became %x, %d", size, block, got, e)
			}
			raised, _ := k.Open(block)
			if got, e := Close(m, secret, raised); e != api.OK || !bytes.Equal(got, block) {
				t.Errorf("%d: %x became %x, %d", size, block, got, e)
			}
		}
	}
}

func TestCloseErrorsInTheirOrder(t *testing.T) {
	good := odd(make([]byte, 64))
	even := bytes.Repeat([]byte{254}, 64)
	long := make([]byte, 1025)
	for _, c := range []struct {
		modulus, secret, block []byte
		want                   api.Errno
	}{
		{nil, nil, nil, api.ErrBits},
		{nil, long, nil, api.ErrBits},
		{good[:63], long, good[:63], api.ErrBits},
		{append([]byte{255}, good...), nil, good, api.ErrBits},
		{make([]byte, 65), nil, good, api.ErrBits},
		{make([]byte, 576), long, nil, api.ErrBits},
		{even, long, nil, api.ErrKey},
		{even, nil, even, api.ErrKey},
		{even, nil, small(1, 64), api.ErrKey},
		{small(1, 64), long, small(0, 64), api.ErrKey},
		{good, long, nil, api.ErrSize},
		{good, long, bytes.Repeat([]byte{255}, 65), api.ErrSize},
		{good, long, good, api.ErrRange},
		{good, nil, good, api.ErrRange},
		{good, long, small(1, 64), api.ErrBig},
		{good, long[:1024], small(1, 64), api.OK},
	} {
		got, e := Close(c.modulus, c.secret, c.block)
		if e != c.want || (len(got) == 0) != (e != api.OK) {
			t.Errorf("Close(%x, %d bytes, %x) = %x, %d", c.modulus, len(c.secret), c.block, got, e)
		}
	}
}

// What is refused changes nothing of a key.
func TestRefusedChangesNothing(t *testing.T) {
	m := odd(mixed(rand.New(rand.NewSource(71)), 128))
	k := made(t, m)
	want, _ := k.Open(small(3, 128))
	k.Open(nil)
	k.Open(m)
	k.Open(bytes.Repeat([]byte{255}, 129))
	isKeyOf(t, k, m)
	if got, e := k.Open(small(3, 128)); e != api.OK || !bytes.Equal(got, want) {
		t.Errorf("%x, %d", got, e)
	}
}

// The rule of memory

// roomy is b with spare room that is filled.
func roomy(b []byte) []byte {
	return append(bytes.Clone(b), bytes.Repeat([]byte{77}, 600)...)[:len(b)]
}

// intact says whether what roomy made is as it was, its room too.
func intact(b []byte, want []byte) bool {
	return bytes.Equal(b, want) && bytes.Equal(b[len(b):len(b)+600], bytes.Repeat([]byte{77}, 600))
}

// spoil writes over bytes, and their spare room.
func spoil(b []byte) {
	b = b[:cap(b)]
	for i := range b {
		b[i] = 0xde
	}
}

func TestArgumentsAreLeftAndNotKept(t *testing.T) {
	r := rand.New(rand.NewSource(72))
	for _, size := range []int{64, 512} {
		m := odd(mixed(r, size))
		modulus, whole := roomy(m), roomy(layout(m))
		block, secret := roomy(small(5, size)), roomy([]byte{0, 1, 0, 1})
		k := made(t, modulus)
		p, e := Parse(whole)
		if e != api.OK {
			t.Fatal(e)
		}
		first, _ := k.Open(block)
		second, _ := p.Open(block)
		third, _ := Close(modulus, secret, block)
		if !intact(modulus, m) || !intact(whole, layout(m)) || !intact(block, small(5, size)) || !intact(secret, []byte{0, 1, 0, 1}) {
			t.Fatalf("%d: an argument was changed", size)
		}
		for _, b := range [][]byte{modulus, whole, block, secret} {
			spoil(b)
		}
		want := power(small(5, size), []byte{1, 0, 1}, m)
		for i, b := range [][]byte{first, second, third} {
			if !bytes.Equal(b, want) {
				t.Errorf("%d: answer %d has an argument's memory: %x", size, i, b)
			}
		}
		for _, k := range []*Key{k, p} {
			isKeyOf(t, k, m)
			if got, e := k.Open(small(5, size)); e != api.OK || !bytes.Equal(got, want) {
				t.Errorf("%d: %x, %d", size, got, e)
			}
		}
	}
}

// Answers written over change neither the key nor one another.
func TestAnswersAreNew(t *testing.T) {
	r := rand.New(rand.NewSource(73))
	for _, size := range []int{64, 512} {
		m := odd(mixed(r, size))
		parsed, _ := Parse(layout(m))
		for _, k := range []*Key{made(t, m), parsed} {
			ask := func() [][]byte {
				all := [][]byte{k.Bytes(), k.Modulus(), k.Name(), k.Modulus(), k.Bytes(), k.Name()}
				for _, a := range [][]byte{make([]byte, size), small(1, size), plus(m, -1)} {
					open, _ := k.Open(a)
					nought, _ := Close(m, nil, a)
					one, _ := Close(m, []byte{1}, a)
					all = append(all, open, nought, one)
				}
				return all
			}
			first, want := ask(), ask()
			for i, b := range first {
				if !bytes.Equal(b, want[i]) {
					t.Errorf("%d: answer %d is %x, then %x", size, i, want[i], b)
				}
				spoil(b)
			}
			for i, b := range ask() {
				if !bytes.Equal(b, want[i]) {
					t.Errorf("%d: answer %d was changed through another: %x", size, i, b)
				}
			}
			isKeyOf(t, k, m)
		}
	}
}
