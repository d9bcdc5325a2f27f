package blob

import (
	"bytes"
	"crypto"
	"crypto/rsa"
	_ "crypto/sha256"
	_ "crypto/sha512"
	"encoding/binary"
	"math"
	"math/big"
	"math/rand"
	"reflect"
	"strings"
	"sync"
	"testing"

	"sallyport/api"
	"sallyport/descr"
	"sallyport/key"
	"sallyport/seal"
)

// times are so many bytes of one value.
func times(n int, x byte) []byte { return bytes.Repeat([]byte{x}, n) }

// primes are the greatest ones of 512 bits, from the greatest down.
var primes = sync.OnceValue(func() []*big.Int {
	var all []*big.Int
	n := new(big.Int).Sub(new(big.Int).Lsh(big.NewInt(1), 512), big.NewInt(1))
	for len(all) < 10 {
		if n.ProbablyPrime(20) {
			all = append(all, new(big.Int).Set(n))
		}
		n.Sub(n, big.NewInt(2))
	}
	return all
})

// pair is a modulus of so many times 512 bits, and its secret: of primes from
// one on.
func pair(from int, count int) (modulus []byte, secret []byte) {
	n, turns, one := big.NewInt(1), big.NewInt(1), big.NewInt(1)
	for _, p := range primes()[from : from+count] {
		n.Mul(n, p)
		turns.Mul(turns, new(big.Int).Sub(p, one))
	}
	return n.Bytes(), new(big.Int).ModInverse(big.NewInt(65537), turns).Bytes()
}

// libSums are the library's sums of the algorithms.
var libSums = []crypto.Hash{1: crypto.SHA256, 2: crypto.SHA512}

// sumOf is a text's sum, reckoned by the library.
func sumOf(alg int, text []byte) []byte {
	h := libSums[alg].New()
	h.Write(text)
	return h.Sum(nil)
}

func lineOf(words string) descr.Descr { return descr.Descr{Kind: 3, Value: []byte(words)} }

func hashOf(name string) descr.Descr {
	return descr.Descr{Kind: 2, Name: name, Alg: 1, Size: 256, Salt: []byte("salt"), Digest: times(32, 9)}
}

func chainOf(name string, keySize int) descr.Descr {
	return descr.Descr{Kind: 4, Name: name, Location: 3, Key: times(keySize, 8)}
}

// some are right descriptors, of each kind.
func some() []descr.Descr {
	return []descr.Descr{
		lineOf("quiet"), hashOf("boot"), {Kind: 0, Name: "p", Value: []byte("v")}, chainOf("vendor", 136),
		{Kind: 1, Name: "system", Alg: 1, Size: 1000, Block: 64, Off: 1024, Digest: times(32, 7)},
	}
}

// bare is a right blob that isn't signed.
func bare() Blob { return Blob{Head: Head{Index: 5, Flags: 1, Location: 2}, Descr: some()} }

// signed is a right one of an algorithm, that doesn't hold: its bytes are none
// of a key or a signature.
func signed(alg int) Blob {
	b := bare()
	b.Alg = alg
	b.Hash, b.Key, b.Sig = times(32*alg, 0xaa), times(136, 0xbb), times(64, 0xcc)
	return b
}

// with is b, turned.
func with(b Blob, turn func(b *Blob)) Blob {
	turn(&b)
	return b
}

// listed are the bytes of descriptors that layer 12 encodes.
func listed(t *testing.T, list []descr.Descr) []byte {
	t.Helper()
	b, e := descr.Encode(list)
	if e != api.OK {
		t.Fatalf("%v: %d", list, e)
	}
	return b
}

func fill64(b []byte) []byte { return append(b, make([]byte, (64-len(b)%64)%64)...) }

// laid are the three pieces of a blob, right or not, as the document lays
// them, whose descriptors' bytes are list.
func laid(b Blob, list []byte) (head []byte, auth []byte, aux []byte) {
	auth = fill64(append(bytes.Clone(b.Hash), b.Sig...))
	aux = fill64(append(bytes.Clone(list), b.Key...))
	head = append(head, 'A', 'V', 'B', '0', 0, 0, 0, 1)
	for _, n := range []int{len(auth), len(aux)} {
		head = binary.BigEndian.AppendUint64(head, uint64(n))
	}
	head = binary.BigEndian.AppendUint32(head, uint32(b.Alg))
	for _, n := range []int{len(b.Hash), len(b.Sig), len(b.Key), len(list), b.Index} {
		head = binary.BigEndian.AppendUint64(head, uint64(n))
	}
	head = binary.BigEndian.AppendUint32(head, uint32(b.Flags))
	head = binary.BigEndian.AppendUint32(head, uint32(b.Location))
	return append(head, make([]byte, 128-len(head))...), auth, aux
}

// rawOf are the bytes of a blob, right or not.
func rawOf(t *testing.T, b Blob) []byte {
	t.Helper()
	head, auth, aux := laid(b, listed(t, b.Descr))
	return bytes.Join([][]byte{head, auth, aux}, nil)
}

// textOf is what is signed of a blob.
func textOf(t *testing.T, b Blob) []byte {
	t.Helper()
	head, _, aux := laid(b, listed(t, b.Descr))
	return append(head, aux...)
}

// plain is b with texts for lists.
func plain(b Blob) []any {
	all := []any{b.Head, string(b.Key), string(b.Hash), string(b.Sig)}
	for _, d := range b.Descr {
		all = append(all, d.Kind, d.Alg, d.Size, d.Block, d.Off, d.Location, d.Name, string(d.Salt), string(d.Digest), string(d.Key), string(d.Value))
	}
	return all
}

func same(a Blob, b Blob) bool { return reflect.DeepEqual(plain(a), plain(b)) }

// isRight checks that one is right, and is written and read as the document
// says.
func isRight(t *testing.T, b Blob) {
	t.Helper()
	if !b.Right() {
		t.Fatalf("not right: %v", b)
	}
	raw, e := Encode(b)
	if e != api.OK || !bytes.Equal(raw, rawOf(t, b)) {
		t.Fatalf("Encode(%v): %x, %d", b, raw, e)
	}
	parses(t, raw, b)
}

// isWrong checks that one isn't right, is not written, and is not read.
func isWrong(t *testing.T, b Blob, want api.Errno) {
	t.Helper()
	refuses(t, b)
	parseFails(t, rawOf(t, b), want)
}

// refuses checks that one isn't right and not written.
func refuses(t *testing.T, b Blob) {
	t.Helper()
	if b.Right() {
		t.Fatalf("right: %v", b)
	}
	if raw, e := Encode(b); len(raw) != 0 || e != api.ErrForm {
		t.Fatalf("Encode(%v): %x, %d", b, raw, e)
	}
}

func parses(t *testing.T, raw []byte, want Blob) {
	t.Helper()
	if b, e := Parse(raw); e != api.OK || !same(b, want) {
		t.Fatalf("Parse(%x): %v, %d, not %v", raw, b, e, want)
	}
}

// parseFails checks the error of Parse, which is Check's too.
func parseFails(t *testing.T, raw []byte, want api.Errno) {
	t.Helper()
	for i, read := range []func([]byte) (Blob, api.Errno){Parse, Check} {
		if b, e := read(raw); e != want || !same(b, Blob{}) {
			t.Fatalf("%d: %x: %v, %d, not %d", i, raw, b, e, want)
		}
	}
}

// farNumbers are numbers that nothing in a head can be.
func farNumbers() []int {
	return []int{-1, -2, -64, -1 << 31, -1 << 32, -1 << 48, api.MaxIndex + 1, 1 << 49, 1 << 62, math.MaxInt, math.MaxInt - 1, math.MinInt, math.MinInt + 1, math.MinInt + 2}
}

// P13.1: Right

func TestHeads(t *testing.T) {
	for _, x := range []struct {
		most int
		far  []int
		turn func(b *Blob, n int)
	}{
		{3, []int{4, 5, 7, 8, 255, 256, 1 << 16, 1<<32 + 1}, func(b *Blob, n int) { b.Flags = n }},
		{31, []int{32, 33, 63, 64, 256, 1 << 16, 1<<32 + 1}, func(b *Blob, n int) { b.Location = n }},
	} {
		for _, from := range []Blob{bare(), signed(1), signed(2)} {
			for n := 0; n <= x.most; n++ {
				isRight(t, with(from, func(b *Blob) { x.turn(b, n) }))
			}
			for _, n := range x.far {
				refuses(t, with(from, func(b *Blob) { x.turn(b, n) }))
				if n < 1<<32 {
					isWrong(t, with(from, func(b *Blob) { x.turn(b, n) }), api.ErrForm)
				}
			}
			for _, n := range farNumbers() {
				refuses(t, with(from, func(b *Blob) { x.turn(b, n) }))
			}
		}
	}
}

func TestIndexes(t *testing.T) {
	for _, from := range []Blob{bare(), signed(1), signed(2)} {
		for _, n := range []int{0, 1, 2, 255, 256, 1 << 16, 1<<32 - 1, 1 << 32, 1<<40 + 3, api.MaxIndex - 1, api.MaxIndex} {
			isRight(t, with(from, func(b *Blob) { b.Index = n }))
		}
		for _, n := range append(farNumbers(), api.MaxIndex+2, 1<<48+1<<16, 1<<56) {
			isWrong(t, with(from, func(b *Blob) { b.Index = n }), api.ErrForm)
		}
	}
}

func TestAlgs(t *testing.T) {
	for alg := range 3 {
		b := signed(alg)
		if alg == 0 {
			b = bare()
		}
		isRight(t, b)
		for _, n := range append(farNumbers(), 3, 4, 255, 256, 257, 1<<16, 1<<16+1, 1<<32, 1<<32+1, 1<<32+2) {
			refuses(t, with(b, func(b *Blob) { b.Alg = n }))
			if 0 <= n && n < 1<<32 {
				isWrong(t, with(b, func(b *Blob) { b.Alg = n }), api.ErrAlg)
			}
		}
		// What is right with one algorithm is so with no other one.
		for other := range 3 {
			if other != alg {
				isWrong(t, with(b, func(b *Blob) { b.Alg = other }), api.ErrForm)
			}
		}
	}
}

// One that isn't signed has neither a key nor a hash nor a signature.
func TestBareHasNothingElse(t *testing.T) {
	for _, n := range []int{1, 2, 31, 32, 64, 136, 512, 1032, 5000} {
		isWrong(t, with(bare(), func(b *Blob) { b.Key = make([]byte, n) }), api.ErrForm)
		isWrong(t, with(bare(), func(b *Blob) { b.Hash = make([]byte, n) }), api.ErrForm)
		isWrong(t, with(bare(), func(b *Blob) { b.Sig = make([]byte, n) }), api.ErrForm)
	}
	isRight(t, Blob{})
	isRight(t, with(bare(), func(b *Blob) { b.Key, b.Hash, b.Sig = []byte{}, []byte{}, []byte{} }))
}

func TestLengthsOfTheSigned(t *testing.T) {
	for alg := 1; alg <= 2; alg++ {
		for n := range 1200 {
			key := with(signed(alg), func(b *Blob) { b.Key = times(n, 3) })
			hash := with(signed(alg), func(b *Blob) { b.Hash = times(n, 3) })
			sig := with(signed(alg), func(b *Blob) { b.Sig = times(n, 3) })
			for _, x := range []struct {
				b     Blob
				right bool
			}{{key, 1 <= n && n <= 1032}, {hash, n == 32*alg}, {sig, 1 <= n && n <= 512}} {
				if x.right {
					isRight(t, x.b)
				} else {
					isWrong(t, x.b, api.ErrForm)
				}
			}
		}
		for _, n := range []int{4096, 1 << 16, 1 << 20} {
			refuses(t, with(signed(alg), func(b *Blob) { b.Key = make([]byte, n) }))
			refuses(t, with(signed(alg), func(b *Blob) { b.Hash = make([]byte, n) }))
			refuses(t, with(signed(alg), func(b *Blob) { b.Sig = make([]byte, n) }))
		}
	}
}

// wrongLists are those that layer 12 doesn't encode.
func wrongLists() [][]descr.Descr {
	return [][]descr.Descr{
		{{Kind: 5}}, {{Kind: -1}}, {{Kind: 3, Alg: 1}}, {{Kind: 0}}, {lineOf(strings.Repeat("w", 257))},
		{hashOf("boot"), hashOf("boot")}, append(some(), some()[1]), make([]descr.Descr, 33),
		append(some(), descr.Descr{Kind: 2, Name: "Boot", Alg: 1, Digest: times(32, 1)}), lines(33),
	}
}

// lines are so many of them.
func lines(n int) []descr.Descr {
	var list []descr.Descr
	for range n {
		list = append(list, lineOf("quiet"))
	}
	return list
}

func TestDescriptors(t *testing.T) {
	for _, from := range []Blob{bare(), signed(1), signed(2)} {
		for _, list := range wrongLists() {
			refuses(t, with(from, func(b *Blob) { b.Descr = list }))
		}
		for _, list := range [][]descr.Descr{nil, {}, some(), some()[:1], some()[3:], lines(32)} {
			isRight(t, with(from, func(b *Blob) { b.Descr = list }))
		}
	}
}

// P13.1: Encode

func TestEncodeEachByte(t *testing.T) {
	b := Blob{Head: Head{Alg: 1, Index: 0x0000a1b2c3d4e5f6, Flags: 2, Location: 17}, Descr: []descr.Descr{lineOf("quiet")}}
	b.Hash, b.Sig, b.Key = times(32, 0x11), times(35, 0x22), times(300, 0x33)
	want := []byte{
		'A', 'V', 'B', '0', 0, 0, 0, 1,
		0, 0, 0, 0, 0, 0, 0, 128,
		0, 0, 0, 0, 0, 0, 1, 128,
		0, 0, 0, 1,
		0, 0, 0, 0, 0, 0, 0, 32,
		0, 0, 0, 0, 0, 0, 0, 35,
		0, 0, 0, 0, 0, 0, 1, 44,
		0, 0, 0, 0, 0, 0, 0, 72,
		0, 0, 0xa1, 0xb2, 0xc3, 0xd4, 0xe5, 0xf6,
		0, 0, 0, 2,
		0, 0, 0, 17,
	}
	want = append(want, make([]byte, 52)...)
	want = append(want, times(32, 0x11)...)
	want = append(want, times(35, 0x22)...)
	want = append(want, make([]byte, 61)...)
	want = append(want, listed(t, b.Descr)...)
	want = append(want, times(300, 0x33)...)
	want = append(want, make([]byte, 12)...)
	raw, e := Encode(b)
	if e != api.OK || !bytes.Equal(raw, want) {
		t.Errorf("%x, %d", raw, e)
	}
	parses(t, want, b)
}

func TestEncodeNothing(t *testing.T) {
	raw, e := Encode(Blob{})
	if e != api.OK || len(raw) != 128 || !bytes.Equal(raw, append([]byte{'A', 'V', 'B', '0', 0, 0, 0, 1}, make([]byte, 120)...)) {
		t.Errorf("%x, %d", raw, e)
	}
}

// The greatest blob there is has far fewer bytes than an image may have.
func TestEncodeTheGreatest(t *testing.T) {
	b := with(signed(2), func(b *Blob) {
		b.Key, b.Sig, b.Index, b.Flags, b.Location = times(1032, 1), times(512, 2), api.MaxIndex, 3, 31
		b.Descr = nil
		for i := range 32 {
			b.Descr = append(b.Descr, chainOf(strings.Repeat(string(rune('a'+i%26)), 23)+string(rune('0'+i/26)), 1032))
		}
	})
	isRight(t, b)
	if raw := rawOf(t, b); len(raw) != 128+576+36928 {
		t.Error(len(raw))
	}
}

// P13.2

func TestParseCutShortOrLonger(t *testing.T) {
	for _, b := range []Blob{{}, bare(), signed(1), signed(2)} {
		raw := rawOf(t, b)
		for n := range raw {
			parseFails(t, raw[:n], api.ErrEnd)
		}
		for more := 1; more < 200; more++ {
			for _, x := range []byte{0, 1, 0xff} {
				parseFails(t, append(bytes.Clone(raw), times(more, x)...), api.ErrForm)
			}
		}
	}
	for n := range 128 {
		parseFails(t, times(n, 0xff), api.ErrEnd)
	}
	parseFails(t, nil, api.ErrEnd)
}

// put is raw with a number of so many bytes at one.
func put(raw []byte, at int, size int, n uint64) []byte {
	c := bytes.Clone(raw)
	for i := range size {
		c[at+size-1-i] = byte(n >> (8 * i))
	}
	return c
}

func TestParseMagicAndVersion(t *testing.T) {
	raw := rawOf(t, signed(1))
	for at := range 4 {
		for bit := range 8 {
			parseFails(t, put(raw, at, 1, uint64(raw[at]^1<<bit)), api.ErrMagic)
		}
	}
	for _, n := range []uint64{0, 2, 3, 257, 1<<16 + 1, 1<<24 + 1, 1<<31 + 1, math.MaxUint32, 1 << 24} {
		parseFails(t, put(raw, 4, 4, n), api.ErrVersion)
	}
	parseFails(t, []byte("AVBf"+strings.Repeat("\x00", 124)), api.ErrMagic)
	parseFails(t, make([]byte, 128), api.ErrMagic)
	parseFails(t, []byte("AVB0"+strings.Repeat("\x00", 124)), api.ErrVersion)
}

func TestParseTooBig(t *testing.T) {
	raw := rawOf(t, signed(1))
	for _, n := range []uint64{1<<16 + 1, 1<<16 + 64, 1<<16 + 128, 1 << 17, 1 << 32, 1<<32 + 128, 1 << 48, 1<<48 + 1, 1<<48 + 2, 1 << 62, 1<<63 - 1, 1 << 63, 1<<63 + 128, math.MaxUint64, math.MaxUint64 - 63, math.MaxUint64 - 127} {
		for _, at := range []int{8, 16} {
			parseFails(t, put(raw, at, 8, n), api.ErrBig)
			parseFails(t, put(raw, at, 8, n)[:128], api.ErrBig)
		}
		// Sums that wrap round to what there is are none.
		parseFails(t, put(put(raw, 8, 8, n), 16, 8, -n+uint64(len(raw)-128)), api.ErrBig)
	}
	for _, at := range []int{8, 16} {
		parseFails(t, put(raw, at, 8, 1<<16), api.ErrEnd)
		parseFails(t, put(raw, at, 8, 1<<16-1), api.ErrEnd)
	}
	for _, n := range []int{1<<16 + 1, 1<<16 + 64, 1 << 17} {
		long := append(bytes.Clone(raw), make([]byte, n-len(raw))...)
		parseFails(t, long, api.ErrBig)
		// However much it says there is.
		parseFails(t, put(long, 16, 8, uint64(n-128-128)), api.ErrBig)
	}
	long := append(bytes.Clone(raw), make([]byte, 1<<16-len(raw))...)
	parseFails(t, long, api.ErrForm)
	parseFails(t, put(long, 27, 1, 3), api.ErrForm)
	parseFails(t, put(put(long, 16, 8, 1<<16-128-128), 27, 1, 3), api.ErrAlg)
}

func TestParseAlg(t *testing.T) {
	for _, b := range []Blob{{}, bare(), signed(1)} {
		raw := rawOf(t, b)
		for _, n := range []uint64{3, 4, 255, 256, 257, 1 << 16, 1<<24 + 1, 1 << 31, 1<<31 + 1, math.MaxUint32} {
			parseFails(t, put(raw, 24, 4, n), api.ErrAlg)
		}
	}
}

// Lengths that don't make the auth and the aux as long as they are.
func TestParseLengths(t *testing.T) {
	for _, b := range []Blob{{}, bare(), signed(1), signed(2)} {
		raw := rawOf(t, b)
		for i, pair := range [][2]int{{28, 36}, {36, 28}, {44, 52}, {52, 44}} {
			at, beside := pair[0], pair[1]
			was, rest := binary.BigEndian.Uint64(raw[at:]), binary.BigEndian.Uint64(raw[beside:])
			for _, n := range []uint64{was + 64, was + 128, was - 64, 1 << 16, 1 << 32, 1<<32 + was, 1 << 48, 1<<48 + was, 1 << 62, 1 << 63, 1<<63 + was, math.MaxUint64, math.MaxUint64 - 63, -rest, -rest - 63, 1<<63 - rest} {
				if n == was || n == 0 {
					continue
				}
				parseFails(t, put(raw, at, 8, n), api.ErrForm)
				// Sums that wrap round to what there is.
				if n > 1<<16 && rest-n > 1<<16 {
					parseFails(t, put(put(raw, at, 8, was+n), beside, 8, rest-n), api.ErrForm)
				}
			}
			// Nothing there, both lengths as great as they may be.
			for _, n := range []uint64{1 << 62, 1 << 63, 1<<63 - 1, math.MaxUint64} {
				parseFails(t, put(put(raw, at, 8, n), beside, 8, n), api.ErrForm)
				parseFails(t, put(put(raw, at, 8, n), beside, 8, -n), api.ErrForm)
			}
			if b.Alg != 0 && i < 2 {
				// As long as before, but no lengths of a right blob, or noughts
				// that are none.
				parseFails(t, put(raw, at, 8, was-1), api.ErrForm)
				parseFails(t, put(put(raw, at, 8, was-1), beside, 8, rest+1), api.ErrForm)
			}
		}
	}
}

// An auth or an aux that is a multiple more, or none.
func TestParseMultiples(t *testing.T) {
	b := signed(1)
	head, auth, aux := laid(b, listed(t, b.Descr))
	for _, more := range []int{-64, -1, 1, 8, 32, 63, 64, 65, 128} {
		longer := func(piece []byte) []byte { return append(bytes.Clone(piece), make([]byte, 128)...)[:len(piece)+more] }
		parseFails(t, bytes.Join([][]byte{put(head, 8, 8, uint64(len(auth)+more)), longer(auth), aux}, nil), api.ErrForm)
		parseFails(t, bytes.Join([][]byte{put(head, 16, 8, uint64(len(aux)+more)), auth, longer(aux)}, nil), api.ErrForm)
		// What one has more the other has less.
		if len(auth)-more > 0 {
			parseFails(t, put(put(rawOf(t, b), 8, 8, uint64(len(auth)-more)), 16, 8, uint64(len(aux)+more)), api.ErrForm)
		}
	}
}

// Layer 12's errors, of the descriptors' bytes and no others.
func TestParseDescriptors(t *testing.T) {
	line, hash := listed(t, []descr.Descr{lineOf("x")}), listed(t, []descr.Descr{hashOf("boot")})
	for _, x := range []struct {
		list []byte
		want api.Errno
	}{
		{times(7, 0), api.ErrEnd},
		{line[:len(line)-1], api.ErrEnd},
		{append(bytes.Clone(line), 0), api.ErrEnd},
		{put(line, 0, 8, 5), api.ErrTag},
		{put(line, 16, 4, 1), api.ErrForm},
		{bytes.Join([][]byte{hash, line, hash}, nil), api.ErrTwice},
		{bytes.Repeat(line, 33), api.ErrBig},
	} {
		for _, b := range []Blob{{}, bare(), signed(1), signed(2)} {
			head, auth, aux := laid(b, x.list)
			raw := bytes.Join([][]byte{head, auth, aux}, nil)
			parseFails(t, raw, x.want)
			// Ahead of what is wrong with the blob beside.
			parseFails(t, put(raw, 68, 4, 9), x.want)
			parseFails(t, put(raw, 127, 1, 9), x.want)
			// What is named ahead.
			parseFails(t, put(raw, 24, 4, 3), api.ErrAlg)
			parseFails(t, put(raw, 28, 8, 999), api.ErrForm)
			parseFails(t, append(raw, 0), api.ErrForm)
		}
	}
	// Without their last byte, which is the key's first one then.
	b := signed(1)
	raw := rawOf(t, b)
	size := uint64(len(listed(t, b.Descr)))
	parseFails(t, put(put(raw, 52, 8, size-1), 44, 8, 137), api.ErrEnd)
	parseFails(t, put(put(raw, 52, 8, size+1), 44, 8, 135), api.ErrEnd)
}

// Noughts of the head, the auth and the aux that are none.
func TestParseNoughts(t *testing.T) {
	for _, b := range []Blob{{}, bare(), signed(1), with(signed(2), func(b *Blob) { b.Sig = times(65, 1) })} {
		raw := rawOf(t, b)
		list := len(listed(t, b.Descr))
		var noughts []int
		for at := 76; at < 128; at++ {
			noughts = append(noughts, at)
		}
		aux := len(raw) - len(fill64(make([]byte, list+len(b.Key))))
		for at := 128 + len(b.Hash) + len(b.Sig); at < aux; at++ {
			noughts = append(noughts, at)
		}
		for at := aux + list + len(b.Key); at < len(raw); at++ {
			noughts = append(noughts, at)
		}
		for _, at := range noughts {
			for _, x := range []uint64{1, 0x80, 0xff} {
				parseFails(t, put(raw, at, 1, x), api.ErrForm)
			}
		}
	}
}

// Numbers that are no right head's; greater ones than an integer holds, too.
func TestParseNumbers(t *testing.T) {
	for _, b := range []Blob{{}, bare(), signed(1)} {
		raw := rawOf(t, b)
		for _, n := range []uint64{1<<48 + 1, 1<<48 + 2, 1 << 49, 1 << 62, 1<<63 - 1, 1 << 63, 1<<63 + 5, math.MaxUint64} {
			parseFails(t, put(raw, 60, 8, n), api.ErrForm)
		}
		parses(t, put(raw, 60, 8, 1<<48), with(b, func(b *Blob) { b.Index = 1 << 48 }))
		for _, n := range []uint64{4, 256, 1<<16 + 1, 1<<24 + 1, 1<<31 + 1, math.MaxUint32} {
			parseFails(t, put(raw, 68, 4, n), api.ErrForm)
		}
		for _, n := range []uint64{32, 256, 1<<16 + 1, 1<<24 + 1, 1<<31 + 1, math.MaxUint32} {
			parseFails(t, put(raw, 72, 4, n), api.ErrForm)
		}
	}
}

func TestParseErrorsInTheirOrder(t *testing.T) {
	b := signed(1)
	head, auth, aux := laid(b, times(7, 1)) // no descriptors: an end
	right := bytes.Join([][]byte{head, auth, aux}, nil)
	spoils := []struct {
		spoil func(raw []byte) []byte
		want  api.Errno
	}{
		{func(raw []byte) []byte { return put(raw, 0, 4, 0) }, api.ErrMagic},
		{func(raw []byte) []byte { return put(raw, 4, 4, 2) }, api.ErrVersion},
		{func(raw []byte) []byte { return put(raw, 8, 8, 1<<16+1) }, api.ErrBig},
		{func(raw []byte) []byte { return put(raw, 8, 8, 1<<16) }, api.ErrEnd},
		{func(raw []byte) []byte { return put(raw, 16, 8, 0) }, api.ErrForm},
		{func(raw []byte) []byte { return put(raw, 24, 4, 3) }, api.ErrAlg},
		{func(raw []byte) []byte { return put(raw, 28, 8, 300) }, api.ErrForm},
		{func(raw []byte) []byte { return raw }, api.ErrEnd},
	}
	for from := range spoils {
		for mask := range 1 << (len(spoils) - from - 1) {
			raw := right
			for i := len(spoils) - 1; i > from; i-- {
				if mask>>(i-from-1)&1 == 1 {
					raw = spoils[i].spoil(raw)
				}
			}
			raw = spoils[from].spoil(raw)
			want := spoils[from].want
			// The ends and what is left over are told of one length.
			if want == api.ErrForm && from == 4 {
				raw = put(raw, 8, 8, uint64(len(auth)))
			}
			parseFails(t, raw, want)
			parseFails(t, raw[:127], api.ErrEnd)
		}
	}
}

// Against a model

// modelRight tells whether the blob of these numbers and lengths is right.
func modelRight(b Blob) bool {
	if _, e := descr.Encode(b.Descr); e != api.OK {
		return false
	}
	if b.Index < 0 || b.Index > 1<<48 || b.Flags < 0 || b.Flags > 3 || b.Location < 0 || b.Location > 31 {
		return false
	}
	key, hash, sig := len(b.Key), len(b.Hash), len(b.Sig)
	switch b.Alg {
	case 0:
		return key+hash+sig == 0
	case 1, 2:
		return hash == 32*b.Alg && key >= 1 && key <= 1032 && sig >= 1 && sig <= 512
	}
	return false
}

// modelParse reads a blob, with numbers that have no end.
func modelParse(raw []byte) (Blob, api.Errno) {
	if len(raw) < 128 {
		return Blob{}, api.ErrEnd
	}
	n := func(at int, size int) *big.Int { return new(big.Int).SetBytes(raw[at : at+size]) }
	above := func(n *big.Int, limit int64) bool { return n.Cmp(big.NewInt(limit)) > 0 }
	long := func(a *big.Int, b *big.Int) *big.Int {
		all := new(big.Int).Add(a, b)
		all.Add(all, big.NewInt(63))
		return all.Lsh(all.Rsh(all, 6), 6)
	}
	auth, aux, hash, sig, key, list := n(8, 8), n(16, 8), n(28, 8), n(36, 8), n(44, 8), n(52, 8)
	all := new(big.Int).Add(new(big.Int).Add(auth, aux), big.NewInt(128))
	switch {
	case string(raw[:4]) != "AVB0":
		return Blob{}, api.ErrMagic
	case string(raw[4:8]) != "\x00\x00\x00\x01":
		return Blob{}, api.ErrVersion
	case above(auth, 1<<16) || above(aux, 1<<16) || len(raw) > 1<<16:
		return Blob{}, api.ErrBig
	case above(all, int64(len(raw))):
		return Blob{}, api.ErrEnd
	case all.Cmp(big.NewInt(int64(len(raw)))) != 0:
		return Blob{}, api.ErrForm
	case above(n(24, 4), 2):
		return Blob{}, api.ErrAlg
	case long(hash, sig).Cmp(auth) != 0 || long(list, key).Cmp(aux) != 0:
		return Blob{}, api.ErrForm
	}
	b := Blob{Head: Head{Alg: int(n(24, 4).Int64()), Flags: int(n(68, 4).Int64()), Location: int(n(72, 4).Int64())}}
	rest := raw[128:]
	take := func(count *big.Int) []byte {
		out := rest[:count.Int64()]
		rest = rest[count.Int64():]
		return out
	}
	b.Hash, b.Sig = take(hash), take(sig)
	noughts := bytes.Clone(raw[76:128])
	noughts = append(noughts, take(new(big.Int).Sub(auth, new(big.Int).Add(hash, sig)))...)
	var e api.Errno
	if b.Descr, e = descr.Parse(take(list)); e != api.OK {
		return Blob{}, e
	}
	b.Key = take(key)
	noughts = append(noughts, rest...)
	if above(n(60, 8), 1<<48) || len(bytes.Trim(noughts, "\x00")) != 0 {
		return Blob{}, api.ErrForm
	}
	b.Index = int(n(60, 8).Int64())
	if !modelRight(b) {
		return Blob{}, api.ErrForm
	}
	return b, api.OK
}

// agrees checks Parse against the model.
func agrees(t *testing.T, raw []byte) api.Errno {
	t.Helper()
	b, e := Parse(raw)
	if want, f := modelParse(raw); e != f || !same(b, want) {
		t.Fatalf("Parse(%x): %v, %d; not %v, %d", raw, b, e, want, f)
	}
	if e == api.OK {
		isRight(t, b)
	}
	return e
}

// one is one of several.
func one[T any](r *rand.Rand, of ...T) T { return of[r.Intn(len(of))] }

// random is a blob that may be right.
func random(r *rand.Rand) Blob {
	b := one(r, Blob{}, bare(), signed(1), signed(2), signed(1))
	b.Descr = one(r, nil, some(), some()[:r.Intn(6)], lines(r.Intn(33)), append(some(), wrongLists()[0]...), one(r, wrongLists()...))
	for r.Intn(3) == 0 {
		n := one(r, 0, 1, 2, 3, 31, 32, 33, 64, 136, 511, 512, 513, 1032, 1033, 1<<48, 1<<48+1, -1, r.Intn(2000))
		l := times(max(0, n%2000), byte(n))
		one(r,
			func() { b.Alg = n }, func() { b.Index = n }, func() { b.Flags = n & 7 }, func() { b.Location = n & 63 }, func() { b.Flags = n }, func() { b.Location = n },
			func() { b.Key = l }, func() { b.Hash = l }, func() { b.Sig = l }, func() { b.Alg = r.Intn(4) },
		)()
	}
	return b
}

func TestAgainstTheModel(t *testing.T) {
	r := rand.New(rand.NewSource(131))
	counts := map[bool]int{}
	for range 20000 {
		b := random(r)
		right := modelRight(b)
		counts[right]++
		if right {
			isRight(t, b)
		} else {
			refuses(t, b)
		}
	}
	if counts[true] < 1000 || counts[false] < 1000 {
		t.Error(counts)
	}
}

// spoilt are bytes of a blob, some of which may be changed.
func spoilt(t *testing.T, r *rand.Rand) []byte {
	b := one(r, Blob{}, bare(), signed(1), signed(2), Blob{Descr: lines(2)}, with(signed(1), func(b *Blob) { b.Descr = nil }))
	raw := rawOf(t, b)
	for range r.Intn(4) {
		at := one(r, r.Intn(len(raw)), r.Intn(min(76, len(raw))), one(r, 0, 7, 15, 23, 27, 35, 43, 51, 59, 67, 71, 75)%len(raw))
		one(r,
			func() { raw[at] = byte(r.Intn(256)) }, func() { raw[at]++ }, func() { raw[at]-- }, func() { raw[at] ^= 1 << r.Intn(8) },
			func() { raw[at] += 64 }, func() { raw[at] -= 64 }, func() { raw[at] = one[byte](r, 0, 0xff, 0x80) },
			func() { raw = one(r, raw[:at+1], raw, append(raw, make([]byte, one(r, 1, 64, 128))...)) },
			// A length more, the one beside it less.
			func() {
				if len(raw) > 60 {
					raw[35]++
					raw[43]--
				}
			},
			func() {
				if len(raw) > 60 {
					raw[51]++
					raw[59]--
				}
			},
		)()
	}
	return raw
}

func TestParseAgainstTheModel(t *testing.T) {
	r := rand.New(rand.NewSource(132))
	counts := map[api.Errno]int{}
	for range 30000 {
		counts[agrees(t, spoilt(t, r))]++
	}
	for _, e := range []api.Errno{api.OK, api.ErrEnd, api.ErrMagic, api.ErrVersion, api.ErrBig, api.ErrForm, api.ErrAlg, api.ErrTag} {
		if counts[e] < 100 {
			t.Errorf("%d: %d times", e, counts[e])
		}
	}
}

// Each bit of right bytes, turned.
func TestParseTurnedBits(t *testing.T) {
	for _, b := range []Blob{{}, bare(), signed(1), signed(2)} {
		raw := rawOf(t, b)
		for i := range 8 * len(raw) {
			agrees(t, put(raw, i/8, 1, uint64(raw[i/8]^1<<(i%8))))
		}
	}
}

// P13.3

// made are the bytes that Make makes.
func made(t *testing.T, h Head, list []descr.Descr, modulus []byte, secret []byte) []byte {
	t.Helper()
	raw, e := Make(h, list, modulus, secret)
	if e != api.OK {
		t.Fatalf("Make(%v, %v, %x, %x): %d", h, list, modulus, secret, e)
	}
	return raw
}

// wanted is the blob that Make is to make, reckoned by the library's numbers.
func wanted(t *testing.T, h Head, list []descr.Descr, modulus []byte, secret []byte) Blob {
	t.Helper()
	k, e := key.Make(modulus)
	if e != api.OK {
		t.Fatalf("%x: %d", modulus, e)
	}
	b := Blob{Head: h, Descr: list, Key: k.Bytes(), Hash: make([]byte, 32*h.Alg), Sig: make([]byte, len(modulus))}
	b.Hash = sumOf(h.Alg, textOf(t, b))
	block, e := seal.Block(h.Alg, b.Hash, len(modulus))
	if e != api.OK {
		t.Fatalf("%x: %d", modulus, e)
	}
	power := new(big.Int).Exp(new(big.Int).SetBytes(block), new(big.Int).SetBytes(secret), new(big.Int).SetBytes(modulus))
	b.Sig = power.FillBytes(make([]byte, len(modulus)))
	return b
}

func TestMake(t *testing.T) {
	for count := 1; count <= 8; count++ {
		m, secret := pair(0, count)
		for alg := 1; alg <= 2; alg++ {
			if count == 1 && alg == 2 {
				continue
			}
			for _, list := range [][]descr.Descr{nil, some()} {
				h := Head{Alg: alg, Index: 77, Flags: 3, Location: count}
				raw, want := made(t, h, list, m, secret), wanted(t, h, list, m, secret)
				if !bytes.Equal(raw, rawOf(t, want)) {
					t.Fatalf("%d, %d: %x", count, alg, raw)
				}
				if b, e := Check(raw); e != api.OK || !same(b, want) {
					t.Fatalf("%d, %d: %v, %d", count, alg, b, e)
				}
				libraryVerifies(t, m, want)
			}
		}
	}
}

// libraryVerifies checks a signature by the library, which has no short keys.
func libraryVerifies(t *testing.T, modulus []byte, b Blob) {
	t.Helper()
	if len(modulus) < 128 {
		return
	}
	pub := &rsa.PublicKey{N: new(big.Int).SetBytes(modulus), E: 65537}
	if err := rsa.VerifyPKCS1v15(pub, libSums[b.Alg], sumOf(b.Alg, textOf(t, b)), b.Sig); err != nil {
		t.Fatal(err)
	}
}

// The edges of each number, and the greatest list.
func TestMakeEdges(t *testing.T) {
	m, secret := pair(0, 2)
	for _, h := range []Head{{}, {Index: api.MaxIndex}, {Flags: 3}, {Location: 31}, {Index: 1, Flags: 2, Location: 3}} {
		for alg := range 3 {
			h.Alg = alg
			for _, list := range [][]descr.Descr{nil, {}, lines(32), some()[3:]} {
				want := Blob{Head: h, Descr: list}
				if alg != 0 {
					want = wanted(t, h, list, m, secret)
				}
				raw := made(t, h, list, m, secret)
				if !bytes.Equal(raw, rawOf(t, want)) {
					t.Fatalf("%v: %x", h, raw)
				}
				parses(t, raw, want)
			}
		}
	}
}

// Of nothing with the algorithm 0, 128 bytes; the modulus and the secret may
// be any then.
func TestMakeUnsigned(t *testing.T) {
	raw := made(t, Head{}, nil, nil, nil)
	if len(raw) != 128 || !bytes.Equal(raw, rawOf(t, Blob{})) {
		t.Errorf("%x", raw)
	}
	m, secret := pair(0, 1)
	for _, modulus := range [][]byte{nil, {1}, m, m[1:], make([]byte, 64), make([]byte, 5000)} {
		for _, s := range [][]byte{nil, {0}, secret, make([]byte, 1025)} {
			raw := made(t, bare().Head, some(), modulus, s)
			if !bytes.Equal(raw, rawOf(t, bare())) {
				t.Errorf("%x", raw)
			}
		}
	}
}

// Make closes with whatever it is given: it doesn't ask whether the key opens
// it.
func TestMakeByAnySecret(t *testing.T) {
	m, _ := pair(0, 2)
	_, other := pair(2, 2)
	h := Head{Alg: 1, Index: 3}
	for _, secret := range [][]byte{nil, {}, {0}, {1}, {3}, other, make([]byte, 1024), times(1024, 0xff)} {
		raw := made(t, h, some(), m, secret)
		want := wanted(t, h, some(), m, secret)
		if !bytes.Equal(raw, rawOf(t, want)) {
			t.Fatalf("%x: %x", secret, raw)
		}
		parses(t, raw, want)
		checkFails(t, raw, api.ErrSign)
	}
}

func makeFails(t *testing.T, h Head, list []descr.Descr, modulus []byte, secret []byte, want api.Errno) {
	t.Helper()
	if raw, e := Make(h, list, modulus, secret); len(raw) != 0 || e != want {
		t.Fatalf("Make(%v, %v, %x, %d bytes): %x, %d, not %d", h, list, modulus, len(secret), raw, e, want)
	}
}

func TestMakeErrorsInTheirOrder(t *testing.T) {
	small, smallSecret := pair(0, 1)
	great, secret := pair(0, 2)
	long := make([]byte, 1025)
	moduli := map[api.Errno][][]byte{
		api.OK:      {small, great},
		api.ErrBits: {nil, {1}, small[1:], great[:96], times(576, 0xff), times(65, 0xff)},
		api.ErrKey:  {make([]byte, 64), times(64, 0xfe), append([]byte{0x7f}, times(127, 0xff)...)},
	}
	var heads []Head
	for _, n := range append(farNumbers(), 1<<48+1) {
		heads = append(heads, Head{Alg: n}, Head{Alg: 1, Index: n}, Head{Alg: 2, Flags: n}, Head{Alg: 1, Location: n}, Head{Index: n}, Head{Flags: n}, Head{Location: n})
	}
	heads = append(heads, Head{Alg: 3}, Head{Alg: 1, Flags: 4}, Head{Alg: 1, Location: 32}, Head{Flags: 4}, Head{Location: 32})
	for want, all := range moduli {
		for _, m := range all {
			for _, s := range [][]byte{nil, secret, long} {
				for _, h := range heads {
					makeFails(t, h, some(), m, s, api.ErrForm)
				}
				for _, list := range wrongLists() {
					for alg := range 4 {
						makeFails(t, Head{Alg: alg}, list, m, s, api.ErrForm)
					}
				}
				if want != api.OK {
					makeFails(t, Head{Alg: 1}, some(), m, s, want)
					makeFails(t, Head{Alg: 2, Index: 5}, nil, m, s, want)
				}
			}
		}
	}
	// Too short a key, ahead of too long a secret.
	for _, s := range [][]byte{nil, smallSecret, long} {
		makeFails(t, Head{Alg: 2}, some(), small, s, api.ErrBits)
	}
	for alg := 1; alg <= 2; alg++ {
		makeFails(t, Head{Alg: alg}, some(), great, long, api.ErrBig)
		makeFails(t, Head{Alg: alg}, nil, great, make([]byte, 1<<16), api.ErrBig)
	}
	makeFails(t, Head{Alg: 1}, nil, small, long, api.ErrBig)
}

// P13.4

func checkFails(t *testing.T, raw []byte, want api.Errno) {
	t.Helper()
	if b, e := Check(raw); e != want || !same(b, Blob{}) {
		t.Fatalf("Check(%x): %v, %d, not %d", raw, b, e, want)
	}
}

func TestCheckOfTheUnsigned(t *testing.T) {
	for _, b := range []Blob{{}, bare()} {
		checkFails(t, rawOf(t, b), api.ErrSign)
	}
}

// sealed is b with the digest that it must have.
func sealed(t *testing.T, b Blob) Blob {
	t.Helper()
	b.Hash = make([]byte, 32*b.Alg)
	b.Hash = sumOf(b.Alg, textOf(t, b))
	return b
}

// A digest that is another one: of the text with a salt, of all the bytes, of
// the head or the aux alone, by half.
func TestCheckDigests(t *testing.T) {
	m, secret := pair(0, 2)
	for alg := 1; alg <= 2; alg++ {
		b := wanted(t, Head{Alg: alg, Index: 3}, some(), m, secret)
		if _, e := Check(rawOf(t, b)); e != api.OK {
			t.Fatal(e)
		}
		head, auth, aux := laid(b, listed(t, b.Descr))
		for _, text := range [][]byte{nil, head, aux, append(bytes.Clone(aux), head...), rawOf(t, b), append([]byte("salt"), textOf(t, b)...), append(bytes.Clone(head), auth...)} {
			checkFails(t, rawOf(t, with(b, func(b *Blob) { b.Hash = sumOf(b.Alg, text) })), api.ErrDigest)
		}
		for i := range 8 * len(b.Hash) {
			checkFails(t, rawOf(t, with(b, func(b *Blob) {
				b.Hash = bytes.Clone(b.Hash)
				b.Hash[i/8] ^= 1 << (i % 8)
			})), api.ErrDigest)
		}
	}
}

// Keys that are none, with the digest that says so.
func TestCheckKeys(t *testing.T) {
	m, secret := pair(0, 2)
	b := wanted(t, Head{Alg: 1, Index: 3}, some(), m, secret)
	for _, x := range []struct {
		key  []byte
		want api.Errno
	}{
		{[]byte{1}, api.ErrEnd},
		{b.Key[:7], api.ErrEnd},
		{b.Key[:263], api.ErrEnd},
		{make([]byte, 8), api.ErrBits},
		{put(b.Key, 0, 4, 1025), api.ErrBits},
		{put(b.Key, 0, 4, 4608), api.ErrBits},
		{append(bytes.Clone(b.Key), 0), api.ErrForm},
		{put(b.Key, 4, 4, 1), api.ErrKey},
		{put(b.Key, 8, 1, 0x7f), api.ErrKey},
		{put(b.Key, 263, 1, uint64(b.Key[263]^1)), api.ErrKey},
	} {
		other := sealed(t, with(b, func(b *Blob) { b.Key = x.key }))
		checkFails(t, rawOf(t, other), x.want)
		// A digest that is another one is named ahead.
		other.Hash[0] ^= 1
		checkFails(t, rawOf(t, other), api.ErrDigest)
	}
}

// Signatures that are none: of another key, of other words, too short or long.
func TestCheckSignatures(t *testing.T) {
	m, secret := pair(0, 2)
	other, otherSecret := pair(3, 2)
	for alg := 1; alg <= 2; alg++ {
		h := Head{Alg: alg, Index: 3}
		b := wanted(t, h, some(), m, secret)
		foreign := wanted(t, h, some(), other, otherSecret)
		for _, sig := range [][]byte{{1}, b.Sig[1:], b.Sig[:127], append(bytes.Clone(b.Sig), 0), append([]byte{0}, b.Sig...), make([]byte, 128), times(128, 0xff), times(512, 1), m,
			foreign.Sig, wanted(t, h, nil, m, secret).Sig, wanted(t, Head{Alg: 3 - alg, Index: 3}, some(), m, secret).Sig} {
			// The lengths are signed, too.
			checkFails(t, rawOf(t, sealed(t, with(b, func(b *Blob) { b.Sig = sig }))), api.ErrSign)
		}
		// One's key, another one's signature.
		checkFails(t, rawOf(t, sealed(t, with(b, func(b *Blob) { b.Key = foreign.Key }))), api.ErrSign)
		checkFails(t, rawOf(t, sealed(t, with(foreign, func(b *Blob) { b.Key, b.Hash = wanted(t, h, some(), m, secret).Key, nil }))), api.ErrSign)
		// Another index, by who has no secret.
		checkFails(t, rawOf(t, sealed(t, with(b, func(b *Blob) { b.Index = 4 }))), api.ErrSign)
		if _, e := Check(rawOf(t, sealed(t, b))); e != api.OK {
			t.Error(e)
		}
	}
}

// A key of 512 bits signs nothing by the algorithm 2.
func TestCheckOfTooShortAKey(t *testing.T) {
	m, _ := pair(0, 1)
	k, _ := key.Make(m)
	b := Blob{Head: Head{Alg: 2}, Key: k.Bytes(), Sig: times(64, 1)}
	checkFails(t, rawOf(t, sealed(t, b)), api.ErrBits)
	b.Sig = times(512, 1)
	checkFails(t, rawOf(t, sealed(t, b)), api.ErrBits)
	b.Alg = 1
	checkFails(t, rawOf(t, sealed(t, b)), api.ErrSign)
}

// modelCheck is what Check is to answer of bytes whose key is one.
func modelCheck(t *testing.T, raw []byte) api.Errno {
	b, e := modelParse(raw)
	if e != api.OK {
		return e
	}
	if b.Alg == 0 {
		return api.ErrSign
	}
	if !bytes.Equal(b.Hash, sumOf(b.Alg, textOf(t, b))) {
		return api.ErrDigest
	}
	k, e := key.Parse(b.Key)
	if e != api.OK {
		return e
	}
	return seal.Verify(k, b.Alg, textOf(t, b), b.Sig)
}

// Nothing in a blob that holds may be turned.
func TestCheckTurnedBits(t *testing.T) {
	for count, alg := range []int{1: 1, 2: 2} {
		if count == 0 {
			continue
		}
		m, secret := pair(0, count)
		raw := made(t, Head{Alg: alg, Index: 9, Location: 4}, some(), m, secret)
		for i := range 8 * len(raw) {
			c := put(raw, i/8, 1, uint64(raw[i/8]^1<<(i%8)))
			want := modelCheck(t, c)
			if want == api.OK {
				t.Fatalf("the bit %d may be turned", i)
			}
			checkFails(t, c, want)
		}
	}
}

// The rule of memory

const room = 100

// roomy is b with spare room behind it.
func roomy(b []byte) []byte { return append(bytes.Clone(b), times(room, 0xee)...)[:len(b)] }

// intact tells whether b is still want, and its spare room as roomy made it.
func intact(b []byte, want []byte) bool {
	return bytes.Equal(b, want) && bytes.Equal(b[len(b):len(b)+room], times(room, 0xee))
}

// spoil overwrites all bytes, and their spare room.
func spoil(all ...[]byte) {
	for _, b := range all {
		b = b[:cap(b)]
		for i := range b {
			b[i] = 0x55
		}
	}
}

// listsOf are all lists of bytes in a blob.
func listsOf(b Blob) [][]byte {
	all := [][]byte{b.Key, b.Hash, b.Sig}
	for _, d := range b.Descr {
		all = append(all, d.Salt, d.Digest, d.Key, d.Value)
	}
	return all
}

func TestEncodeLeavesItsArgument(t *testing.T) {
	b := signed(2)
	b.Key, b.Hash, b.Sig = roomy(b.Key), roomy(b.Hash), roomy(b.Sig)
	b.Descr = append(b.Descr, lineOf("spare"))[:len(b.Descr)]
	want := rawOf(t, signed(2))
	first, _ := Encode(b)
	second, _ := Encode(b)
	spoil(first)
	if !b.Right() || !same(b, signed(2)) || !intact(b.Key, signed(2).Key) || !intact(b.Hash, signed(2).Hash) || !intact(b.Sig, signed(2).Sig) {
		t.Fatalf("%v", b)
	}
	if spare := b.Descr[:len(b.Descr)+1][len(b.Descr)]; string(spare.Value) != "spare" {
		t.Error("spare room")
	}
	spoil(listsOf(b)...)
	if !bytes.Equal(second, want) {
		t.Error("an answer shares memory")
	}
}

func TestParseAndCheckLeaveTheirArgument(t *testing.T) {
	m, secret := pair(0, 2)
	want := wanted(t, Head{Alg: 1}, some(), m, secret)
	for _, read := range []func([]byte) (Blob, api.Errno){Parse, Check} {
		raw := roomy(rawOf(t, want))
		for i := range listsOf(want) {
			first, e := read(raw)
			if e != api.OK || !same(first, want) {
				t.Fatalf("%v, %d", first, e)
			}
			second, _ := read(raw)
			all := listsOf(first)
			spoil(all[i])
			// No two lists of one answer share memory.
			for j, l := range all {
				if j != i && !bytes.Equal(l, listsOf(want)[j]) {
					t.Errorf("%d, %d: %x", i, j, l)
				}
			}
			clear(first.Descr[:cap(first.Descr)])
			if !same(second, want) || !intact(raw, rawOf(t, want)) {
				t.Fatalf("%d: an answer shares memory", i)
			}
		}
		last, _ := read(raw)
		spoil(raw)
		if !same(last, want) {
			t.Error("an answer shares memory with an argument")
		}
	}
}

func TestMakeLeavesItsArguments(t *testing.T) {
	m, secret := pair(0, 2)
	for alg := range 3 {
		h := Head{Alg: alg, Index: 1}
		want := made(t, h, some(), m, secret)
		list, modulus, s := some(), roomy(m), roomy(secret)
		for i := range list {
			d := &list[i]
			d.Salt, d.Digest, d.Key, d.Value = roomy(d.Salt), roomy(d.Digest), roomy(d.Key), roomy(d.Value)
		}
		list = append(list, lineOf("spare"))[:len(list)]
		first := made(t, h, list, modulus, s)
		second := made(t, h, list, modulus, s)
		spoil(first)
		for i, d := range list {
			was := some()[i]
			if !intact(d.Salt, was.Salt) || !intact(d.Digest, was.Digest) || !intact(d.Key, was.Key) || !intact(d.Value, was.Value) {
				t.Errorf("%d: %v", i, d)
			}
		}
		if spare := list[:len(list)+1][len(list)]; !intact(modulus, m) || !intact(s, secret) || string(spare.Value) != "spare" {
			t.Error("an argument was changed")
		}
		spoil(modulus, s)
		spoil(listsOf(Blob{Descr: list})...)
		if !bytes.Equal(second, want) {
			t.Error("an answer shares memory")
		}
	}
}

// What is refused changes nothing.
func TestRefusedLeavesItsArgument(t *testing.T) {
	m, secret := pair(0, 2)
	right := made(t, Head{Alg: 1}, some(), m, secret)
	for _, was := range [][]byte{right[:200], put(right, 0, 1, 0), put(right, 24, 4, 9), put(right, 127, 1, 1), put(right, 128, 1, 0), put(right, len(right)-1, 1, 1), rawOf(t, signed(1)), append(bytes.Clone(right), 1)} {
		raw := roomy(was)
		if b, e := Check(raw); e == api.OK || !same(b, Blob{}) || !intact(raw, was) {
			t.Fatalf("%v, %d", b, e)
		}
	}
	b := with(signed(1), func(b *Blob) { b.Key, b.Flags = roomy(b.Key), 4 })
	refuses(t, b)
	if !intact(b.Key, signed(1).Key) {
		t.Errorf("%v", b)
	}
	modulus, s := roomy(m), roomy(make([]byte, 1025))
	makeFails(t, Head{Alg: 1}, some(), modulus, s, api.ErrBig)
	if !intact(modulus, m) || !intact(s, make([]byte, 1025)) {
		t.Error("an argument was changed")
	}
}
