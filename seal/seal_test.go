package seal

import (
	"bytes"
	"crypto"
	"crypto/rsa"
	"crypto/sha256"
	"crypto/sha512"
	"encoding/hex"
	"math"
	"math/big"
	"math/rand"
	"testing"

	"sallyport/api"
	"sallyport/key"
)

// The numbers that are none of an algorithm.
func noAlgs() []int {
	return []int{0, -1, -2, 3, 4, 8, 9, 255, 256, 257, 258, 1 << 16, 1<<16 + 1, 1<<32 + 1, 1<<32 + 2, math.MaxInt, math.MinInt, math.MinInt + 1}
}

func sizes() []int { return []int{64, 128, 192, 256, 320, 384, 448, 512} }

// lengths are those of texts: about the ends of both sums' blocks, and others.
func lengths() []int {
	return []int{0, 1, 2, 31, 32, 55, 56, 63, 64, 65, 111, 112, 119, 120, 127, 128, 129, 1000, 4096}
}

// libSum is a text's sum, reckoned by the library.
func libSum(alg int, text []byte) []byte {
	if alg == 1 {
		s := sha256.Sum256(text)
		return s[:]
	}
	s := sha512.Sum512(text)
	return s[:]
}

// random are so many bytes, as the numbers of r have it.
func random(r *rand.Rand, size int) []byte {
	b := make([]byte, size)
	r.Read(b)
	return b
}

func unhex(t *testing.T, s string) []byte {
	t.Helper()
	b, err := hex.DecodeString(s)
	if err != nil {
		t.Fatal(err)
	}
	return b
}

// P7.1

func TestSize(t *testing.T) {
	if Size(1) != 32 || Size(2) != 64 {
		t.Error(Size(1), Size(2))
	}
	for _, alg := range noAlgs() {
		if Size(alg) != 0 {
			t.Errorf("Size(%d) = %d", alg, Size(alg))
		}
	}
}

// isDigest checks a digest against the library's sum of a text.
func isDigest(t *testing.T, alg int, text []byte, salt []byte, parts ...[]byte) {
	t.Helper()
	d, e := Digest(alg, salt, parts...)
	if e != api.OK || len(d) != Size(alg) || !bytes.Equal(d, libSum(alg, text)) {
		t.Fatalf("Digest(%d, %x, %x) = %x, %d", alg, salt, parts, d, e)
	}
}

func TestDigestExample(t *testing.T) {
	short := "ba7816bf8f01cfea414140de5dae2223b00361a396177a9cb410ff61f20015ad"
	long := "ddaf35a193617abacc417349ae20413112e6fa4e89a97ea20a9eeee64b55d39a2192992a274fc1a836ba3c23a3feebbd454d4423643ce80e2a9ac94fa54ca49f"
	for alg, want := range []string{1: short, 2: long} {
		if alg == 0 {
			continue
		}
		d, e := Digest(alg, []byte("a"), []byte("b"), []byte("c"))
		if e != api.OK || hex.EncodeToString(d) != want {
			t.Errorf("%d: %x, %d", alg, d, e)
		}
	}
}

// However a text is cut into a salt and parts, its digest is one.
func TestDigestOfParts(t *testing.T) {
	r := rand.New(rand.NewSource(71))
	for _, alg := range []int{1, 2} {
		isDigest(t, alg, nil, nil)
		isDigest(t, alg, nil, []byte{})
		isDigest(t, alg, nil, nil, nil)
		isDigest(t, alg, nil, nil, nil, []byte{}, nil)
		for _, n := range lengths() {
			text := random(r, n)
			isDigest(t, alg, text, nil, text)
			isDigest(t, alg, text, nil, nil, text, nil)
			for range 8 {
				salt := min(n, r.Intn(api.MaxSalt+1))
				var parts [][]byte
				for rest := text[salt:]; len(rest) > 0; {
					cut := r.Intn(min(len(rest), 200) + 1)
					parts, rest = append(parts, rest[:cut]), rest[cut:]
				}
				isDigest(t, alg, text, text[:salt], parts...)
			}
		}
	}
}

// The salt stands ahead of the text, and the parts in their order.
func TestDigestOrder(t *testing.T) {
	for _, alg := range []int{1, 2} {
		isDigest(t, alg, []byte("saltonetwo"), []byte("salt"), []byte("one"), []byte("two"))
		isDigest(t, alg, []byte("saltonetwo"), nil, []byte("salt"), []byte("one"), []byte("two"))
		isDigest(t, alg, []byte("saltonetwo"), []byte("saltonetwo"))
		isDigest(t, alg, []byte("onetwosalt"), []byte("one"), []byte("two"), []byte("salt"))
	}
}

func TestDigestSalts(t *testing.T) {
	text := []byte("a text")
	for _, alg := range []int{1, 2} {
		for n := range 300 {
			salt := bytes.Repeat([]byte{byte(n)}, n)
			if n <= 64 {
				isDigest(t, alg, append(bytes.Clone(salt), text...), salt, text)
				continue
			}
			for _, parts := range [][][]byte{nil, {text}, {text, text}} {
				if d, e := Digest(alg, salt, parts...); e != api.ErrBig || len(d) != 0 {
					t.Fatalf("%d: a salt of %d bytes: %x, %d", alg, n, d, e)
				}
			}
		}
		if d, e := Digest(alg, make([]byte, 1<<16), text); e != api.ErrBig || len(d) != 0 {
			t.Errorf("%x, %d", d, e)
		}
	}
}

// No algorithm is named ahead of too long a salt.
func TestDigestAlg(t *testing.T) {
	for _, alg := range noAlgs() {
		for _, salt := range [][]byte{nil, make([]byte, 64), make([]byte, 65)} {
			for _, parts := range [][][]byte{nil, {[]byte("a")}} {
				if d, e := Digest(alg, salt, parts...); e != api.ErrAlg || len(d) != 0 {
					t.Errorf("Digest(%d, %d bytes): %x, %d", alg, len(salt), d, e)
				}
			}
		}
	}
}

// P7.2

const (
	shortHead = "3031300d060960864801650304020105000420"
	longHead  = "3051300d060960864801650304020305000440"
)

// headOf is an algorithm's head, as the document has it.
func headOf(t *testing.T, alg int) []byte {
	t.Helper()
	return unhex(t, []string{1: shortHead, 2: longHead}[alg])
}

// layout is a digest's block with so many ff.
func layout(t *testing.T, alg int, digest []byte, fills int) []byte {
	t.Helper()
	return bytes.Join([][]byte{{0, 1}, bytes.Repeat([]byte{255}, fills), {0}, headOf(t, alg), digest}, nil)
}

func TestBlock(t *testing.T) {
	r := rand.New(rand.NewSource(72))
	for alg, least := range []int{1: 62, 2: 94} {
		if alg == 0 {
			continue
		}
		for size := -600; size < 1200; size++ {
			digest := random(r, Size(alg))
			got, e := Block(alg, digest, size)
			if size < least || size > 512 {
				if e != api.ErrBits || len(got) != 0 {
					t.Fatalf("Block(%d, .., %d) = %x, %d", alg, size, got, e)
				}
				continue
			}
			want := layout(t, alg, digest, size-least+8)
			if e != api.OK || len(got) != size || !bytes.Equal(got, want) {
				t.Fatalf("Block(%d, %x, %d) = %x, %d", alg, digest, size, got, e)
			}
		}
	}
}

func TestBlockOfFarSizes(t *testing.T) {
	for _, alg := range []int{1, 2} {
		digest := make([]byte, Size(alg))
		for _, size := range []int{math.MaxInt, math.MaxInt - 1, math.MinInt, math.MinInt + 1, math.MinInt + 53, math.MinInt + 54, math.MinInt + 61, math.MinInt + 86,
			math.MinInt + 100, math.MinInt + 512, 1<<32 + 128, -1<<32 + 128, 1<<31 - 1, -1 << 31, 1 << 16, 1<<16 + 128} {
			if got, e := Block(alg, digest, size); e != api.ErrBits || len(got) != 0 {
				t.Errorf("Block(%d, .., %d) = %d bytes, %d", alg, size, len(got), e)
			}
		}
	}
}

func TestBlockForm(t *testing.T) {
	for _, alg := range []int{1, 2} {
		for n := range 200 {
			if n == Size(alg) {
				continue
			}
			for _, size := range []int{128, 512, 0, 61, 93, 513, -1, math.MaxInt, math.MinInt, n + 30} {
				if got, e := Block(alg, make([]byte, n), size); e != api.ErrForm || len(got) != 0 {
					t.Fatalf("Block(%d, %d bytes, %d) = %x, %d", alg, n, size, got, e)
				}
			}
		}
		if got, e := Block(alg, nil, 128); e != api.ErrForm || len(got) != 0 {
			t.Errorf("%x, %d", got, e)
		}
	}
}

func TestBlockAlg(t *testing.T) {
	for _, alg := range noAlgs() {
		for _, n := range []int{0, 1, 32, 64} {
			for _, size := range []int{128, 30, 0, 513, -1} {
				if got, e := Block(alg, make([]byte, n), size); e != api.ErrAlg || len(got) != 0 {
					t.Errorf("Block(%d, %d bytes, %d) = %x, %d", alg, n, size, got, e)
				}
			}
		}
	}
}

// P7.3

func value(b []byte) *big.Int { return new(big.Int).SetBytes(b) }

// number is n in so many bytes.
func number(n *big.Int, size int) []byte { return n.FillBytes(make([]byte, size)) }

// power is a to an exponent, reckoned by the library's numbers.
func power(a []byte, exp []byte, m []byte) []byte {
	return number(new(big.Int).Exp(value(a), value(exp), value(m)), len(m))
}

const primeSize = 32

// prime is a prime whose highest eight bits are 1, so that a product of some
// has as many bits as its bytes have; 65537 has an inverse modulo the number
// just below it.
func prime(r *rand.Rand) *big.Int {
	for {
		b := random(r, primeSize)
		b[0] = 255
		b[primeSize-1] |= 1
		p := value(b)
		below := new(big.Int).Sub(p, big.NewInt(1))
		if below.Mod(below, big.NewInt(65537)).Sign() != 0 && p.ProbablyPrime(20) {
			return p
		}
	}
}

// pair is a modulus and its secret: of many small primes, which are found
// sooner than two great ones, and close and open alike.
func pair(r *rand.Rand, size int) (modulus []byte, secret []byte) {
	product, turns := big.NewInt(1), big.NewInt(1)
	for range size / primeSize {
		p := prime(r)
		product.Mul(product, p)
		turns.Mul(turns, new(big.Int).Sub(p, big.NewInt(1)))
	}
	return number(product, size), number(new(big.Int).ModInverse(big.NewInt(65537), turns), size)
}

// made is the key of a modulus.
func made(t *testing.T, modulus []byte) *key.Key {
	t.Helper()
	k, e := key.Make(modulus)
	if e != api.OK {
		t.Fatalf("Make(%x): %d", modulus, e)
	}
	return k
}

// signed is a signature of a text.
func signed(t *testing.T, modulus []byte, secret []byte, alg int, text []byte) []byte {
	t.Helper()
	sig, e := Sign(modulus, secret, alg, text)
	if e != api.OK || len(sig) != len(modulus) {
		t.Fatalf("Sign(%x, %x, %d, %x) = %x, %d", modulus, secret, alg, text, sig, e)
	}
	return sig
}

// verified checks what Verify answers.
func verified(t *testing.T, k *key.Key, alg int, text []byte, sig []byte, want api.Errno) {
	t.Helper()
	if e := Verify(k, alg, text, sig); e != want {
		t.Fatalf("Verify(%x, %d, %x, %x): %d, not %d", k.Modulus(), alg, text, sig, e, want)
	}
}

// libVerified checks a signature by the library, which has no short keys.
func libVerified(t *testing.T, modulus []byte, alg int, text []byte, sig []byte) {
	t.Helper()
	if len(modulus) < 128 {
		return
	}
	hash := []crypto.Hash{1: crypto.SHA256, 2: crypto.SHA512}[alg]
	pub := &rsa.PublicKey{N: value(modulus), E: 65537}
	if err := rsa.VerifyPKCS1v15(pub, hash, libSum(alg, text), sig); err != nil {
		t.Fatalf("modulus %x, text %x, signature %x: %v", modulus, text, sig, err)
	}
}

func TestSignAndVerify(t *testing.T) {
	r := rand.New(rand.NewSource(73))
	for _, size := range sizes() {
		m, secret := pair(r, size)
		k := made(t, m)
		parsed, e := key.Parse(k.Bytes())
		if e != api.OK {
			t.Fatal(e)
		}
		for alg, least := range []int{1: 62, 2: 94} {
			if alg == 0 || size < least {
				continue
			}
			for _, text := range [][]byte{nil, []byte("abc"), random(r, 1000)} {
				sig := signed(t, m, secret, alg, text)
				want := power(layout(t, alg, libSum(alg, text), size-least+8), secret, m)
				if !bytes.Equal(sig, want) {
					t.Fatalf("size %d, algorithm %d: %x, not %x", size, alg, sig, want)
				}
				libVerified(t, m, alg, text, sig)
				verified(t, k, alg, text, sig, api.OK)
				verified(t, parsed, alg, text, sig, api.OK)
			}
		}
	}
}

func TestSignOfTexts(t *testing.T) {
	r := rand.New(rand.NewSource(74))
	m, secret := pair(r, 128)
	k := made(t, m)
	for _, alg := range []int{1, 2} {
		for _, n := range lengths() {
			text := random(r, n)
			sig := signed(t, m, secret, alg, text)
			libVerified(t, m, alg, text, sig)
			verified(t, k, alg, text, sig, api.OK)
			verified(t, k, 3-alg, text, sig, api.ErrSign)
			verified(t, k, alg, append(bytes.Clone(text), 0), sig, api.ErrSign)
			if n > 0 {
				verified(t, k, alg, text[:n-1], sig, api.ErrSign)
				text[r.Intn(n)] ^= 1 << r.Intn(8)
				verified(t, k, alg, text, sig, api.ErrSign)
			}
		}
	}
}

// A secret of other numbers makes what Close makes of the block, too: Sign
// doesn't ask whether the key opens it.
func TestSignByAnySecret(t *testing.T) {
	r := rand.New(rand.NewSource(75))
	m, _ := pair(r, 128)
	k := made(t, m)
	text := []byte("a text")
	for alg, least := range []int{1: 62, 2: 94} {
		if alg == 0 {
			continue
		}
		block := layout(t, alg, libSum(alg, text), 128-least+8)
		for _, secret := range [][]byte{nil, {}, {0}, {1}, {2}, {1, 0, 1}, make([]byte, 1024), append(make([]byte, 1023), 3), bytes.Repeat([]byte{255}, 1024), random(r, 128)} {
			sig := signed(t, m, secret, alg, text)
			if !bytes.Equal(sig, power(block, secret, m)) {
				t.Errorf("algorithm %d, secret %x: %x", alg, secret, sig)
			}
			verified(t, k, alg, text, sig, api.ErrSign)
		}
	}
}

// wrongModuli have an error of Make each.
func wrongModuli() []struct {
	modulus []byte
	want    api.Errno
} {
	low := append([]byte{127}, bytes.Repeat([]byte{255}, 127)...)
	return []struct {
		modulus []byte
		want    api.Errno
	}{
		{nil, api.ErrBits},
		{[]byte{255}, api.ErrBits},
		{bytes.Repeat([]byte{255}, 63), api.ErrBits},
		{bytes.Repeat([]byte{255}, 65), api.ErrBits},
		{bytes.Repeat([]byte{254}, 96), api.ErrBits},
		{bytes.Repeat([]byte{255}, 513), api.ErrBits},
		{bytes.Repeat([]byte{255}, 576), api.ErrBits},
		{bytes.Repeat([]byte{254}, 64), api.ErrKey},
		{bytes.Repeat([]byte{254}, 512), api.ErrKey},
		{make([]byte, 64), api.ErrKey},
		{make([]byte, 128), api.ErrKey},
		{low[:64], api.ErrKey},
		{low, api.ErrKey},
	}
}

// refused checks that Sign answers an error, and no bytes.
func refused(t *testing.T, modulus []byte, secret []byte, alg int, text []byte, want api.Errno) {
	t.Helper()
	if sig, e := Sign(modulus, secret, alg, text); e != want || len(sig) != 0 {
		t.Errorf("Sign(%x, %d bytes, %d, %x) = %x, %d, not %d", modulus, len(secret), alg, text, sig, e, want)
	}
}

func TestSignErrorsInTheirOrder(t *testing.T) {
	r := rand.New(rand.NewSource(76))
	small, smallSecret := pair(r, 64)
	great, greatSecret := pair(r, 128)
	long := make([]byte, 1025)
	text := []byte("a text")
	for _, alg := range noAlgs() {
		for _, secret := range [][]byte{nil, greatSecret, long} {
			refused(t, great, secret, alg, text, api.ErrAlg)
			refused(t, small, secret, alg, nil, api.ErrAlg)
			for _, c := range wrongModuli() {
				refused(t, c.modulus, secret, alg, text, api.ErrAlg)
			}
		}
	}
	for _, alg := range []int{1, 2} {
		for _, secret := range [][]byte{nil, {1}, long} {
			for _, c := range wrongModuli() {
				refused(t, c.modulus, secret, alg, text, c.want)
			}
		}
		refused(t, great, long, alg, text, api.ErrBig)
		refused(t, great, bytes.Repeat([]byte{255}, 1<<16), alg, nil, api.ErrBig)
	}
	refused(t, small, long, 1, text, api.ErrBig)
	for _, secret := range [][]byte{nil, smallSecret, long} {
		refused(t, small, secret, 2, text, api.ErrBits)
	}
	signed(t, small, smallSecret, 1, text)
	signed(t, great, long[:1024], 2, text)
}

// A signature that other means have made.
func TestVerifyKnown(t *testing.T) {
	m := unhex(t, "f0b97a67793909dbe5d04ea2e455cd06220c3198c18663882e2dea13611306c46c5eb9bd364a372c84b6148b532597475752508c749226fd005c2365f5895491")
	sig := unhex(t, "efc9ec83e4a508c82d5c7eab43e35fdccb4c8ef1093b9dffcd626b19dcc513e0eb3ade5854f96be8e59150ecbcc9914785f206ee19f0ec3aefcb30e439f4ae62")
	k := made(t, m)
	verified(t, k, 1, []byte("abc"), sig, api.OK)
	for at := range sig {
		for bit := range 8 {
			other := bytes.Clone(sig)
			other[at] ^= 1 << bit
			verified(t, k, 1, []byte("abc"), other, api.ErrSign)
		}
	}
	for n := range 200 {
		other := append(bytes.Clone(sig), make([]byte, 200)...)[:n]
		if n != len(sig) {
			verified(t, k, 1, []byte("abc"), other, api.ErrSign)
		}
	}
	verified(t, k, 1, []byte("abc"), nil, api.ErrSign)
	verified(t, k, 1, []byte("abc"), append([]byte{0}, sig...), api.ErrSign)
}

// What Open refuses, and what it opens to trivial blocks.
func TestVerifyEdges(t *testing.T) {
	r := rand.New(rand.NewSource(77))
	for _, size := range []int{64, 128, 512} {
		m, _ := pair(r, size)
		k := made(t, m)
		one, noughts := new(big.Int).SetInt64(1), make([]byte, size)
		block := layout(t, 1, libSum(1, nil), size-54)
		for _, sig := range [][]byte{nil, noughts, number(one, size), number(new(big.Int).Sub(value(m), one), size), m,
			number(new(big.Int).Add(value(m), one), size), bytes.Repeat([]byte{255}, size), block, block[1:], noughts[1:], append(noughts, 0)} {
			verified(t, k, 1, nil, sig, api.ErrSign)
		}
	}
}

// A signature with the modulus added is the same modulo it, yet none.
func TestVerifyBelowTheModulus(t *testing.T) {
	r := rand.New(rand.NewSource(78))
	m, secret := pair(r, 64)
	room := new(big.Int).Lsh(big.NewInt(1), 512)
	tried := 0
	for i := 0; tried == 0 && i < 2000; i++ {
		text := []byte{byte(i), byte(i >> 8)}
		sig := signed(t, m, secret, 1, text)
		if more := new(big.Int).Add(value(sig), value(m)); more.Cmp(room) < 0 {
			verified(t, made(t, m), 1, text, number(more, 64), api.ErrSign)
			tried++
		}
	}
	if tried == 0 {
		t.Error("no signature had room")
	}
}

func TestVerifyByAnotherKey(t *testing.T) {
	r := rand.New(rand.NewSource(79))
	text := []byte("a text")
	first, secret := pair(r, 128)
	second, otherSecret := pair(r, 128)
	third, _ := pair(r, 192)
	for _, alg := range []int{1, 2} {
		sig := signed(t, first, secret, alg, text)
		verified(t, made(t, first), alg, text, sig, api.OK)
		verified(t, made(t, second), alg, text, sig, api.ErrSign)
		verified(t, made(t, third), alg, text, sig, api.ErrSign)
		verified(t, made(t, first), alg, text, signed(t, first, otherSecret, alg, text), api.ErrSign)
	}
}

// forgeries are blocks of a size that say the digest, but are none of it.
func forgeries(t *testing.T, alg int, digest []byte, size int) [][]byte {
	t.Helper()
	right, e := Block(alg, digest, size)
	if e != api.OK {
		t.Fatal(e)
	}
	head := headOf(t, alg)
	// What stands behind a block with too few ff, so that it is as long.
	behind := func(fills int) []byte {
		b := layout(t, alg, digest, fills)
		return append(b, make([]byte, size-len(b))...)
	}
	// What has so many bytes ahead of the digest, filled with ff.
	filled := func(last ...[]byte) []byte {
		b := bytes.Join(last, nil)
		return bytes.Join([][]byte{{0, 1}, bytes.Repeat([]byte{255}, size-3-len(b)), {0}, b}, nil)
	}
	// The head without its 05 00, its lengths set right.
	bare := append(bytes.Clone(head[:15]), 4, byte(len(digest)))
	bare[1], bare[3] = bare[1]-2, bare[3]-2
	all := [][]byte{behind(8), behind(0), behind(1), filled(digest), filled(bare, digest),
		filled(headOf(t, 3-alg), digest), filled(head, digest[1:]), filled(head, digest, []byte{0}), filled(head, libSum(alg, digest))}
	for at := range right {
		other := bytes.Clone(right)
		other[at] ^= 1
		all = append(all, other)
	}
	kind := bytes.Clone(right)
	kind[1] = 2
	return append(all, kind)
}

// A block that isn't just the one is refused, though the secret closed it.
func TestVerifyForgedBlocks(t *testing.T) {
	r := rand.New(rand.NewSource(80))
	m, secret := pair(r, 128)
	k := made(t, m)
	text := []byte("a text")
	for _, alg := range []int{1, 2} {
		for _, block := range forgeries(t, alg, libSum(alg, text), 128) {
			// Above the modulus there is nothing to close.
			if value(block).Cmp(value(m)) >= 0 {
				t.Fatalf("%x", block)
			}
			verified(t, k, alg, text, power(block, secret, m), api.ErrSign)
		}
	}
}

// A signature is of a digest without a salt.
func TestSignWithoutSalt(t *testing.T) {
	r := rand.New(rand.NewSource(81))
	m, secret := pair(r, 128)
	for _, alg := range []int{1, 2} {
		salted, _ := Digest(alg, []byte("salt"), []byte("text"))
		block, _ := Block(alg, salted, 128)
		sig := power(block, secret, m)
		verified(t, made(t, m), alg, []byte("text"), sig, api.ErrSign)
		verified(t, made(t, m), alg, []byte("salttext"), sig, api.OK)
	}
}

func TestVerifyErrorsInTheirOrder(t *testing.T) {
	r := rand.New(rand.NewSource(82))
	m, secret := pair(r, 64)
	k := made(t, m)
	text := []byte("a text")
	sig := signed(t, m, secret, 1, text)
	for _, s := range [][]byte{nil, sig, sig[1:], m, bytes.Repeat([]byte{255}, 65)} {
		for _, alg := range noAlgs() {
			verified(t, k, alg, text, s, api.ErrAlg)
		}
		verified(t, k, 2, text, s, api.ErrBits)
	}
	verified(t, k, 1, text, sig, api.OK)
}

// A key of 512 bits has room for the shorter digest alone; the next one for both.
func TestSmallestKeys(t *testing.T) {
	r := rand.New(rand.NewSource(83))
	for _, size := range []int{64, 128} {
		m, secret := pair(r, size)
		want := api.OK
		if size == 64 {
			want = api.ErrBits
		}
		signed(t, m, secret, 1, nil)
		if sig, e := Sign(m, secret, 2, nil); e != want || (len(sig) != 0) != (want == api.OK) {
			t.Errorf("%d: %x, %d", size, sig, e)
		}
	}
}

// The rule of memory

const room = 600

// roomy is b with spare room that is filled.
func roomy(b []byte) []byte {
	return append(bytes.Clone(b), bytes.Repeat([]byte{77}, room)...)[:len(b)]
}

// intact says whether what roomy made is as it was, its room too.
func intact(b []byte, want []byte) bool {
	return bytes.Equal(b, want) && bytes.Equal(b[len(b):len(b)+room], bytes.Repeat([]byte{77}, room))
}

// spoil writes over bytes, and their spare room.
func spoil(b []byte) {
	b = b[:cap(b)]
	for i := range b {
		b[i] = 0xde
	}
}

func TestArgumentsAreLeftAndNotKept(t *testing.T) {
	r := rand.New(rand.NewSource(84))
	m, s := pair(r, 128)
	for _, alg := range []int{1, 2} {
		want := libSum(alg, []byte("salttext"))
		wantSig := signed(t, m, s, alg, []byte("text"))
		salt, text, digest := roomy([]byte("salt")), roomy([]byte("text")), roomy(want)
		modulus, secret, sig := roomy(m), roomy(s), roomy(wantSig)
		first, _ := Digest(alg, salt, text)
		only, _ := Digest(alg, salt)
		block, _ := Block(alg, digest, 128)
		made1, _ := Sign(modulus, secret, alg, text)
		k := made(t, m)
		verified(t, k, alg, text, sig, api.OK)
		all := [][]byte{salt, text, digest, modulus, secret, sig}
		for i, b := range [][]byte{[]byte("salt"), []byte("text"), want, m, s, wantSig} {
			if !intact(all[i], b) {
				t.Errorf("%d: argument %d was changed: %x", alg, i, all[i])
			}
			spoil(all[i])
		}
		fills := len(block) - 22 - len(want)
		if !bytes.Equal(first, want) || !bytes.Equal(only, libSum(alg, []byte("salt"))) ||
			!bytes.Equal(block, layout(t, alg, want, fills)) || !bytes.Equal(made1, wantSig) {
			t.Errorf("%d: an answer has an argument's memory", alg)
		}
		verified(t, k, alg, []byte("text"), wantSig, api.OK)
	}
}

// The list of the parts is left as it is, its spare room too.
func TestListOfPartsIsLeft(t *testing.T) {
	for _, alg := range []int{1, 2} {
		list := [][]byte{[]byte("a"), []byte("b"), []byte("c"), []byte("d")}
		isDigest(t, alg, []byte("saltab"), []byte("salt"), list[:2]...)
		if string(bytes.Join(list, nil)) != "abcd" {
			t.Errorf("%d: %q", alg, list)
		}
	}
}

// Answers written over change no later answer.
func TestAnswersAreNew(t *testing.T) {
	r := rand.New(rand.NewSource(85))
	m, s := pair(r, 128)
	k := made(t, m)
	for _, alg := range []int{1, 2} {
		digest := libSum(alg, nil)
		ask := func() [][]byte {
			var all [][]byte
			for range 2 {
				d, _ := Digest(alg, nil)
				b, _ := Block(alg, digest, 128)
				sig, _ := Sign(m, s, alg, []byte("text"))
				all = append(all, d, b, sig)
			}
			return all
		}
		first, want := ask(), ask()
		for i, b := range first {
			if !bytes.Equal(b, want[i]) {
				t.Errorf("%d: answer %d is %x, then %x", alg, i, want[i], b)
			}
			spoil(b)
		}
		for i, b := range ask() {
			if !bytes.Equal(b, want[i]) {
				t.Errorf("%d: answer %d was changed through another: %x", alg, i, b)
			}
		}
		verified(t, k, alg, []byte("text"), want[2], api.OK)
	}
}

// What is refused changes nothing of a key.
func TestRefusedChangesNothing(t *testing.T) {
	r := rand.New(rand.NewSource(86))
	m, secret := pair(r, 128)
	k := made(t, m)
	name, text := k.Name(), []byte("a text")
	sig := signed(t, m, secret, 1, text)
	verified(t, k, 0, text, sig, api.ErrAlg)
	verified(t, k, 1, nil, sig, api.ErrSign)
	verified(t, k, 1, text, nil, api.ErrSign)
	verified(t, k, 1, text, m, api.ErrSign)
	verified(t, k, 1, text, sig, api.OK)
	if !bytes.Equal(k.Name(), name) || !bytes.Equal(k.Modulus(), m) {
		t.Error("the key was changed")
	}
}
