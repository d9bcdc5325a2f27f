package descr

import (
	"bytes"
	"encoding/binary"
	"math"
	"math/rand"
	"reflect"
	"strings"
	"testing"

	"sallyport/api"
)

// filled are so many bytes of one value.
func filled(n int, x byte) []byte { return bytes.Repeat([]byte{x}, n) }

// propertyOf, treeOf, hashOf, lineOf and chainOf are right ones of each kind.

func propertyOf(name string) Descr { return Descr{Kind: 0, Name: name, Value: []byte("value")} }

func treeOf(name string) Descr {
	return Descr{Kind: 1, Name: name, Alg: 1, Size: 1000, Block: 64, Off: 1024, Salt: []byte("salt"), Digest: filled(32, 7)}
}

func hashOf(name string) Descr {
	return Descr{Kind: 2, Name: name, Alg: 2, Size: 500, Salt: []byte("pepper"), Digest: filled(64, 9)}
}

func lineOf(words string) Descr { return Descr{Kind: 3, Value: []byte(words)} }

func chainOf(name string) Descr {
	return Descr{Kind: 4, Name: name, Location: 5, Key: []byte("key")}
}

// oneEach is a right one of each kind.
func oneEach() []Descr {
	return []Descr{propertyOf("boot"), treeOf("boot"), hashOf("boot"), lineOf("quiet"), chainOf("boot")}
}

// with is d, turned.
func with(d Descr, turn func(d *Descr)) Descr {
	turn(&d)
	return d
}

// laid are the bytes of a descriptor, right or not, as the document lays them.
func laid(d Descr) []byte {
	var body []byte
	body = binary.BigEndian.AppendUint32(body, uint32(d.Alg))
	body = binary.BigEndian.AppendUint64(body, uint64(d.Size))
	body = binary.BigEndian.AppendUint32(body, uint32(d.Block))
	body = binary.BigEndian.AppendUint64(body, uint64(d.Off))
	body = binary.BigEndian.AppendUint32(body, uint32(d.Location))
	for _, n := range []int{len(d.Name), len(d.Salt), len(d.Digest), len(d.Key), len(d.Value)} {
		body = binary.BigEndian.AppendUint32(body, uint32(n))
	}
	body = append(body, d.Name...)
	body = append(body, d.Salt...)
	body = append(body, d.Digest...)
	body = append(body, d.Key...)
	body = append(body, d.Value...)
	for len(body)%8 != 0 {
		body = append(body, 0)
	}
	return bodied(uint64(d.Kind), body)
}

// bodied is a body behind its kind and its length.
func bodied(kind uint64, body []byte) []byte {
	b := binary.BigEndian.AppendUint64(nil, kind)
	b = binary.BigEndian.AppendUint64(b, uint64(len(body)))
	return append(b, body...)
}

// laidAll are the bytes of all, one behind the other.
func laidAll(list []Descr) []byte {
	var b []byte
	for _, d := range list {
		b = append(b, laid(d)...)
	}
	return b
}

// same tells whether two lists are one, nil and empty being alike.
func same(a []Descr, b []Descr) bool {
	if len(a) != len(b) {
		return false
	}
	for i := range a {
		if !reflect.DeepEqual(plain(a[i]), plain(b[i])) {
			return false
		}
	}
	return true
}

// plain is d with texts for lists.
func plain(d Descr) []any {
	return []any{d.Kind, d.Alg, d.Size, d.Block, d.Off, d.Location, d.Name, string(d.Salt), string(d.Digest), string(d.Key), string(d.Value)}
}

// isRight checks that one is right, and is written and read as the document
// says.
func isRight(t *testing.T, d Descr) {
	t.Helper()
	if !d.Right() {
		t.Fatalf("not right: %v", d)
	}
	encodes(t, []Descr{d})
}

// isWrong checks that one isn't right, is not written, and is not read.
func isWrong(t *testing.T, d Descr) {
	t.Helper()
	if d.Right() {
		t.Fatalf("right: %v", d)
	}
	refuses(t, []Descr{d}, api.ErrForm)
	if d.Kind < 0 || d.Kind > 4 {
		parseFails(t, laid(d), api.ErrTag)
	} else {
		parseFails(t, laid(d), api.ErrForm)
	}
}

// encodes checks that a list is written as the document lays it, and read.
func encodes(t *testing.T, list []Descr) {
	t.Helper()
	b, e := Encode(list)
	if e != api.OK || !bytes.Equal(b, laidAll(list)) {
		t.Fatalf("Encode(%v): %x, %d", list, b, e)
	}
	parses(t, b, list)
}

// refuses checks Encode's error.
func refuses(t *testing.T, list []Descr, want api.Errno) {
	t.Helper()
	if b, e := Encode(list); len(b) != 0 || e != want {
		t.Fatalf("Encode(%v): %x, %d, not %d", list, b, e, want)
	}
}

// parses checks what is read.
func parses(t *testing.T, b []byte, want []Descr) {
	t.Helper()
	if list, e := Parse(b); e != api.OK || !same(list, want) {
		t.Fatalf("Parse(%x): %v, %d, not %v", b, list, e, want)
	}
}

// parseFails checks Parse's error.
func parseFails(t *testing.T, b []byte, want api.Errno) {
	t.Helper()
	if list, e := Parse(b); len(list) != 0 || e != want {
		t.Fatalf("Parse(%x): %v, %d, not %d", b, list, e, want)
	}
}

// farNumbers are numbers that nothing in a descriptor can be.
func farNumbers() []int {
	return []int{-1, -2, -8, -1 << 32, -1 << 40, api.MaxSize + 1, 1 << 41, 1 << 48, 1 << 62, math.MaxInt, math.MaxInt - 1,
		math.MinInt, math.MinInt + 1, math.MinInt + 1000}
}

// P12.1: Right

func TestOneEachIsRight(t *testing.T) {
	for _, d := range oneEach() {
		isRight(t, d)
	}
}

func TestKinds(t *testing.T) {
	for _, kind := range append(farNumbers(), 5, 6, 7, 255, 256, 1<<32, 1<<32+3, 1<<16+3, api.MaxSize) {
		for _, d := range oneEach() {
			isWrong(t, with(d, func(d *Descr) { d.Kind = kind }))
		}
		isWrong(t, Descr{Kind: kind})
	}
	// A right one of a kind is none of another, unless that names the same.
	for from, d := range oneEach() {
		for to := range 5 {
			d := with(d, func(d *Descr) { d.Kind = to })
			if to == from {
				isRight(t, d)
			} else {
				isWrong(t, d)
			}
		}
	}
	// One that has no Value is right of a line alone; a property has a name.
	for kind := range 5 {
		if kind == 3 {
			isRight(t, Descr{Kind: kind})
		} else {
			isWrong(t, Descr{Kind: kind})
		}
	}
}

func TestNames(t *testing.T) {
	letters := "abcdefghijklmnopqrstuvwxyz0123456789_"
	right := []string{letters[:24], letters[13:], "a", "z", "0", "9", "_", "__", "boot_a", "0_0", "vbmeta", strings.Repeat("z", 24)}
	for _, l := range letters {
		right = append(right, string(l), "x"+string(l)+"y")
	}
	wrong := []string{"", strings.Repeat("a", 25), strings.Repeat("_", 26), letters, "A", "Z", "bOot", "boot a", " ", "boot ", " boot", "-", "boot-a", "a.b", "/", ":", "`",
		"{", "^", "a\x00", "\x00", "\n", "boot\n", "ä", "aä", "äa", "aäa", "\xff", "a\xff", "a\xffa", "\u0131", "\u212a", "０", "a\u0301", "\u200b",
		strings.Repeat("ä", 12), strings.Repeat("a", 1<<16)}
	for b := range 256 {
		if !strings.ContainsRune(letters, rune(b)) || b >= 128 {
			wrong = append(wrong, string([]byte{byte(b)}), string([]byte{'x', byte(b), 'y'}), string([]byte{byte(b), 'y'}), string([]byte{'y', byte(b)}))
		}
	}
	for i, d := range oneEach() {
		if i == 3 {
			continue
		}
		for _, name := range right {
			isRight(t, with(d, func(d *Descr) { d.Name = name }))
		}
		for _, name := range wrong {
			isWrong(t, with(d, func(d *Descr) { d.Name = name }))
		}
	}
}

func TestValues(t *testing.T) {
	for _, d := range []Descr{propertyOf("p"), lineOf("")} {
		for _, n := range []int{0, 1, 2, 3, 4, 7, 8, 9, 255, 256} {
			isRight(t, with(d, func(d *Descr) { d.Value = filled(n, 0) }))
			isRight(t, with(d, func(d *Descr) { d.Value = filled(n, 0xff) }))
		}
		for _, n := range []int{257, 258, 512, 1 << 16} {
			isWrong(t, with(d, func(d *Descr) { d.Value = filled(n, 'x') }))
		}
	}
}

func TestAlgs(t *testing.T) {
	for _, d := range []Descr{treeOf("t"), hashOf("h")} {
		d.Block = d.Block * 4
		for _, n := range []int{0, 1, 16, 20, 31, 32, 33, 48, 63, 64, 65, 96, 128} {
			for alg := -3; alg < 6; alg++ {
				d := with(d, func(d *Descr) { d.Alg, d.Digest = alg, filled(n, 1) })
				if alg == 1 && n == 32 || alg == 2 && n == 64 {
					isRight(t, d)
				} else {
					isWrong(t, d)
				}
			}
		}
		for _, alg := range append(farNumbers(), 1<<8+1, 1<<16+1, 1<<32+1, 1<<32+2) {
			for _, n := range []int{0, 32, 64} {
				isWrongUnread(t, with(d, func(d *Descr) { d.Alg, d.Digest = alg, filled(n, 1) }))
			}
		}
	}
}

// isWrongUnread checks that one isn't right and not written, where its bytes
// have no room for what is wrong with it.
func isWrongUnread(t *testing.T, d Descr) {
	t.Helper()
	if d.Right() {
		t.Fatalf("right: %v", d)
	}
	refuses(t, []Descr{d}, api.ErrForm)
}

func TestSalts(t *testing.T) {
	for _, d := range []Descr{treeOf("t"), hashOf("h")} {
		for n := range 65 {
			isRight(t, with(d, func(d *Descr) { d.Salt = filled(n, byte(n)) }))
		}
		for _, n := range []int{65, 66, 128, 256, 1 << 16} {
			isWrong(t, with(d, func(d *Descr) { d.Salt = filled(n, 0) }))
		}
	}
}

func TestSizesOfHashes(t *testing.T) {
	for _, size := range []int{0, 1, 2, 63, 64, 65, 1 << 16, 1 << 20, 1<<20 + 1, 1 << 32, api.MaxSize - 1, api.MaxSize} {
		isRight(t, with(hashOf("h"), func(d *Descr) { d.Size = size }))
	}
	for _, size := range farNumbers() {
		isWrong(t, with(hashOf("h"), func(d *Descr) { d.Size = size }))
	}
}

func TestSizesOfTrees(t *testing.T) {
	for _, size := range []int{1, 2, 63, 64, 65, 1 << 20, 1 << 32, api.MaxSize - 1, api.MaxSize} {
		isRight(t, with(treeOf("t"), func(d *Descr) { d.Size, d.Off = size, size }))
		isRight(t, with(treeOf("t"), func(d *Descr) { d.Size, d.Off = size, api.MaxSize }))
	}
	for _, size := range append(farNumbers(), 0) {
		isWrong(t, with(treeOf("t"), func(d *Descr) { d.Size, d.Off = size, size }))
		isWrong(t, with(treeOf("t"), func(d *Descr) { d.Size, d.Off = size, api.MaxSize }))
	}
}

func TestOffs(t *testing.T) {
	tree := treeOf("t")
	for _, off := range []int{1000, 1001, 1023, 1024, 1 << 20, 1<<20 + 1, 1 << 32, api.MaxSize - 1, api.MaxSize} {
		isRight(t, with(tree, func(d *Descr) { d.Off = off }))
	}
	for _, off := range append(farNumbers(), 0, 1, 64, 998, 999) {
		isWrong(t, with(tree, func(d *Descr) { d.Off = off }))
	}
}

func TestBlocks(t *testing.T) {
	for alg := 1; alg <= 2; alg++ {
		tree := with(treeOf("t"), func(d *Descr) { d.Alg, d.Digest = alg, filled(32*alg, 3) })
		for block := -100; block < 9000; block++ {
			d := with(tree, func(d *Descr) { d.Block = block })
			right := block >= 64*alg && block <= 4096 && block&(block-1) == 0
			if d.Right() != right {
				t.Fatalf("%d, %d: %t", alg, block, !right)
			}
			if right {
				isRight(t, d)
			} else if block%97 == 0 || block == 32*alg {
				isWrong(t, d)
			}
		}
		for _, block := range append(farNumbers(), 1<<16, 1<<20, 1<<32, 1<<32+64) {
			isWrongUnread(t, with(tree, func(d *Descr) { d.Block = block }))
		}
	}
}

func TestLocations(t *testing.T) {
	for location := -50; location < 100; location++ {
		d := with(chainOf("c"), func(d *Descr) { d.Location = location })
		if location >= 1 && location <= 31 {
			isRight(t, d)
		} else {
			isWrong(t, d)
		}
	}
	for _, location := range append(farNumbers(), 1<<32, 1<<32+1, 1<<32+31) {
		isWrongUnread(t, with(chainOf("c"), func(d *Descr) { d.Location = location }))
	}
}

func TestKeys(t *testing.T) {
	for _, n := range []int{1, 2, 3, 7, 8, 9, 136, 1031, 1032} {
		isRight(t, with(chainOf("c"), func(d *Descr) { d.Key = filled(n, byte(n)) }))
	}
	for _, n := range []int{0, 1033, 1034, 1040, 2064, 1 << 16} {
		isWrong(t, with(chainOf("c"), func(d *Descr) { d.Key = filled(n, 1) }))
	}
}

// What a kind doesn't name is 0 or empty.
func TestUnnamed(t *testing.T) {
	named := []string{"NV", "NASBOTD", "NASTD", "V", "NKL"}
	turns := []struct {
		letter string
		turn   func(d *Descr)
	}{
		{"A", func(d *Descr) { d.Alg = 1 }}, {"A", func(d *Descr) { d.Alg = 2 }}, {"A", func(d *Descr) { d.Alg = -1 }},
		{"S", func(d *Descr) { d.Size = 1 }}, {"S", func(d *Descr) { d.Size = -1 }}, {"S", func(d *Descr) { d.Size = math.MinInt }},
		{"B", func(d *Descr) { d.Block = 64 }}, {"B", func(d *Descr) { d.Block = -64 }},
		{"O", func(d *Descr) { d.Off = 1024 }}, {"O", func(d *Descr) { d.Off = -1 }}, {"O", func(d *Descr) { d.Off = 1 }},
		{"L", func(d *Descr) { d.Location = 1 }}, {"L", func(d *Descr) { d.Location = 31 }}, {"L", func(d *Descr) { d.Location = -1 }},
		{"N", func(d *Descr) { d.Name = "a" }},
		{"T", func(d *Descr) { d.Salt = []byte{0} }}, {"T", func(d *Descr) { d.Salt = []byte{1, 2} }},
		{"D", func(d *Descr) { d.Digest = []byte{0} }}, {"D", func(d *Descr) { d.Digest = filled(32, 0) }},
		{"K", func(d *Descr) { d.Key = []byte{0} }}, {"K", func(d *Descr) { d.Key = filled(8, 1) }},
		{"V", func(d *Descr) { d.Value = []byte{0} }}, {"V", func(d *Descr) { d.Value = []byte("v") }},
	}
	for kind, d := range oneEach() {
		for _, x := range turns {
			if !strings.Contains(named[kind], x.letter) {
				isWrong(t, with(d, x.turn))
			}
		}
	}
}

// Nil and empty lists are one.
func TestEmptyLists(t *testing.T) {
	for _, d := range oneEach() {
		full := with(d, func(d *Descr) {
			for _, l := range []*[]byte{&d.Salt, &d.Digest, &d.Key, &d.Value} {
				if *l == nil {
					*l = []byte{}
				}
			}
		})
		isRight(t, full)
		a, _ := Encode([]Descr{d})
		b, _ := Encode([]Descr{full})
		if !bytes.Equal(a, b) {
			t.Errorf("%x, %x", a, b)
		}
	}
}

// P12.1: Encode

func TestEncodeExample(t *testing.T) {
	b, e := Encode([]Descr{lineOf("quiet")})
	if e != api.OK || len(b) != 72 {
		t.Fatalf("%d, %d", len(b), e)
	}
	want := append([]byte{0, 0, 0, 0, 0, 0, 0, 3, 0, 0, 0, 0, 0, 0, 0, 56}, make([]byte, 44)...)
	want = append(want, 0, 0, 0, 5, 'q', 'u', 'i', 'e', 't', 0, 0, 0)
	if !bytes.Equal(b, want) {
		t.Errorf("%x", b)
	}
}

func TestEncodeEachField(t *testing.T) {
	d := Descr{Kind: 1, Name: "system", Alg: 2, Size: 0x102030405, Block: 0x800, Off: 0x1122334455, Salt: []byte{0xa1, 0xa2, 0xa3}, Digest: filled(64, 0xdd)}
	want := []byte{
		0, 0, 0, 0, 0, 0, 0, 1,
		0, 0, 0, 0, 0, 0, 0, 128,
		0, 0, 0, 2,
		0, 0, 0, 1, 2, 3, 4, 5,
		0, 0, 8, 0,
		0, 0, 0, 0x11, 0x22, 0x33, 0x44, 0x55,
		0, 0, 0, 0,
		0, 0, 0, 6,
		0, 0, 0, 3,
		0, 0, 0, 64,
		0, 0, 0, 0,
		0, 0, 0, 0,
		's', 'y', 's', 't', 'e', 'm', 0xa1, 0xa2, 0xa3,
	}
	want = append(want, filled(64, 0xdd)...)
	want = append(want, make([]byte, 7)...)
	b, e := Encode([]Descr{d})
	if e != api.OK || !bytes.Equal(b, want) {
		t.Errorf("%x, %d", b, e)
	}
	d = Descr{Kind: 4, Name: "bo", Location: 31, Key: []byte{9, 8, 7}}
	want = append([]byte{0, 0, 0, 0, 0, 0, 0, 4, 0, 0, 0, 0, 0, 0, 0, 56}, make([]byte, 24)...)
	want = append(want, 0, 0, 0, 31, 0, 0, 0, 2, 0, 0, 0, 0, 0, 0, 0, 0, 0, 0, 0, 3, 0, 0, 0, 0, 'b', 'o', 9, 8, 7, 0, 0, 0)
	b, e = Encode([]Descr{d})
	if e != api.OK || !bytes.Equal(b, want) {
		t.Errorf("%x, %d", b, e)
	}
}

// Noughts stand up to a multiple of 8, and none where there is one.
func TestEncodeNoughts(t *testing.T) {
	for n := range 40 {
		b, e := Encode([]Descr{lineOf(strings.Repeat("w", n))})
		if e != api.OK || len(b) != 64+(n+7)/8*8 || !bytes.Equal(b[64+n:], make([]byte, len(b)-64-n)) {
			t.Errorf("%d: %x, %d", n, b, e)
		}
	}
}

func TestEncodeLists(t *testing.T) {
	encodes(t, nil)
	encodes(t, []Descr{})
	encodes(t, oneEach())
	encodes(t, append(oneEach(), lineOf("quiet"), propertyOf("b"), treeOf("c"), hashOf("d"), chainOf("e"), lineOf("")))
	for n := range 33 {
		encodes(t, many(n))
	}
}

// many are so many right ones, no two of which are like one.
func many(n int) []Descr {
	var list []Descr
	for i := range n {
		list = append(list, with(oneEach()[i%5], func(d *Descr) {
			if d.Kind != 3 {
				d.Name = "part" + string(rune('a'+i/5))
			}
		}))
	}
	return list
}

func TestEncodeTooMany(t *testing.T) {
	for _, n := range []int{33, 34, 40, 64, 65} {
		refuses(t, many(n), api.ErrBig)
		refuses(t, make([]Descr, n), api.ErrBig)
	}
	var lines []Descr
	for range 32 {
		lines = append(lines, lineOf("quiet"))
	}
	encodes(t, lines)
	refuses(t, append(lines, lineOf("quiet")), api.ErrBig)
}

func TestEncodeTwice(t *testing.T) {
	// Two of one kind and name, whatever else they have.
	others := []Descr{
		{Kind: 0, Name: "boot"},
		{Kind: 1, Name: "boot", Alg: 2, Size: 1, Block: 128, Off: 1, Digest: filled(64, 0)},
		{Kind: 2, Name: "boot", Alg: 1, Digest: filled(32, 0)},
		{Kind: 3, Value: []byte("loud")},
		{Kind: 4, Name: "boot", Location: 1, Key: []byte{1}},
	}
	for i, d := range oneEach() {
		for _, list := range [][]Descr{{d, d}, {d, others[i]}, {others[i], d}, {propertyOf("p"), d, lineOf("x"), others[i], hashOf("h")}, append(oneEach(), others[i]), append(many(31), with(many(31)[i], func(d *Descr) {}))} {
			if d.Kind == 3 {
				encodes(t, list)
			} else {
				refuses(t, list, api.ErrTwice)
				parseFails(t, laidAll(list), api.ErrTwice)
			}
		}
		// Another name, or another kind, is not the same.
		encodes(t, append(oneEach(), with(d, func(d *Descr) {
			if d.Kind != 3 {
				d.Name += "_"
			}
		})))
	}
}

func TestEncodeErrorsInTheirOrder(t *testing.T) {
	wrong := with(propertyOf("boot"), func(d *Descr) { d.Off = 1 })
	twice := []Descr{propertyOf("boot"), propertyOf("boot")}
	for _, x := range []struct {
		list []Descr
		want api.Errno
	}{
		{append(many(32), wrong), api.ErrBig},
		{append(many(31), twice...), api.ErrBig},
		{append(append(many(30), twice...), wrong), api.ErrBig},
		{append(many(31), wrong), api.ErrForm},
		{append([]Descr{wrong}, many(31)...), api.ErrForm},
		{append(twice, wrong), api.ErrForm},
		{append([]Descr{wrong}, twice...), api.ErrForm},
		{[]Descr{wrong, wrong}, api.ErrForm},
		{append(twice, many(30)...), api.ErrTwice},
		{append(many(30), twice...), api.ErrTwice},
	} {
		refuses(t, x.list, x.want)
	}
}

// P12.2

func TestParseNothing(t *testing.T) {
	parses(t, nil, nil)
	parses(t, []byte{}, nil)
}

func TestParseCutShort(t *testing.T) {
	for _, list := range [][]Descr{oneEach(), many(32), {lineOf("")}, {lineOf("quiet")}} {
		b := laidAll(list)
		ends := map[int]int{}
		at := 0
		for i, d := range list {
			ends[at] = i
			at += len(laid(d))
		}
		for n := range b {
			if i, found := ends[n]; found {
				parses(t, b[:n], list[:i])
			} else {
				parseFails(t, b[:n], api.ErrEnd)
			}
		}
	}
}

// Fewer than 16 bytes are an end, whatever they are.
func TestParseShortHeads(t *testing.T) {
	for n := 1; n < 16; n++ {
		for _, x := range []byte{0, 1, 4, 5, 0xff} {
			parseFails(t, filled(n, x), api.ErrEnd)
			parseFails(t, append(laidAll(oneEach()), filled(n, x)...), api.ErrEnd)
		}
	}
}

func TestParseTags(t *testing.T) {
	for _, kind := range []uint64{5, 6, 255, 256, 1 << 16, 1<<16 + 3, 1 << 32, 1<<32 + 3, 1 << 62, 1<<63 - 1, 1 << 63, 1<<63 + 3, math.MaxUint64, math.MaxUint64 - 4} {
		for _, d := range oneEach() {
			b := laid(d)
			parseFails(t, bodied(kind, b[16:]), api.ErrTag)
			// Ahead of what follows, however much that is.
			parseFails(t, bodied(kind, b[16:])[:16], api.ErrTag)
			parseFails(t, append(laidAll(oneEach()), bodied(kind, nil)...), api.ErrTag)
		}
		b := binary.BigEndian.AppendUint64(nil, kind)
		parseFails(t, binary.BigEndian.AppendUint64(b, math.MaxUint64), api.ErrTag)
		parseFails(t, append(b, filled(7, 0)...), api.ErrEnd)
	}
}

func TestParseLengths(t *testing.T) {
	for _, d := range oneEach() {
		b := laid(d)
		for _, n := range []uint64{uint64(len(b) - 15), uint64(len(b)), 1 << 16, 1 << 31, 1 << 32, 1<<32 + uint64(len(b)-16), 1 << 62, 1<<63 - 1, 1 << 63, 1<<63 + uint64(len(b)-16), math.MaxUint64, math.MaxUint64 - 15, math.MaxUint64 - 7} {
			c := bytes.Clone(b)
			binary.BigEndian.PutUint64(c[8:], n)
			parseFails(t, c, api.ErrEnd)
			// Behind another one; and though the one itself isn't right.
			parseFails(t, append(laid(lineOf("x")), c...), api.ErrEnd)
			c[16] = 0xff
			parseFails(t, c, api.ErrEnd)
		}
		// Fewer than there are: the body isn't that of a right one.
		for n := range len(b) - 16 {
			c := bytes.Clone(b)
			binary.BigEndian.PutUint64(c[8:], uint64(n))
			parseFails(t, c[:16+n], api.ErrForm)
			parseFails(t, c, api.ErrForm)
		}
	}
}

// More noughts than up to the next multiple of 8, or bytes that are none, make
// another body.
func TestParseNoughts(t *testing.T) {
	for kind, d := range oneEach() {
		b := laid(d)
		for more := 1; more < 20; more++ {
			parseFails(t, bodied(uint64(kind), append(bytes.Clone(b[16:]), make([]byte, more)...)), api.ErrForm)
		}
	}
	for n := range 9 {
		b := laid(lineOf(strings.Repeat("x", n)))
		for at := 64 + n; at < len(b); at++ {
			for _, x := range []byte{1, 0x80, 0xff} {
				c := bytes.Clone(b)
				c[at] = x
				parseFails(t, c, api.ErrForm)
			}
		}
		for fewer := 1; fewer <= len(b)-64-n; fewer++ {
			parseFails(t, bodied(3, b[16:len(b)-fewer]), api.ErrForm)
		}
	}
}

// Bodies that have no room for the numbers and the lengths.
func TestParseShortBodies(t *testing.T) {
	for kind := range 5 {
		for n := range 48 {
			for _, x := range []byte{0, 1, 0xff} {
				parseFails(t, bodied(uint64(kind), filled(n, x)), api.ErrForm)
			}
		}
	}
	parses(t, bodied(3, make([]byte, 48)), []Descr{lineOf("")})
}

// Lengths in the body that go beyond it, or leave bytes over.
func TestParseListLengths(t *testing.T) {
	for _, d := range oneEach() {
		b := laid(d)
		for i := range 5 {
			at := 16 + 28 + 4*i
			was := binary.BigEndian.Uint32(b[at:])
			for _, n := range []uint32{was - 1, was + 1, was + 8, was + 1000, 1 << 16, 1 << 31, 1<<31 - 1, math.MaxUint32, math.MaxUint32 - 47, -was - 48} {
				if n == was {
					continue
				}
				c := bytes.Clone(b)
				binary.BigEndian.PutUint32(c[at:], n)
				// A length more or less may make another right one.
				want, ok := modelBody(d.Kind, c[16:])
				if ok {
					parses(t, c, []Descr{want})
				} else {
					parseFails(t, c, api.ErrForm)
				}
				if ok && (n > was+7 || same([]Descr{want}, []Descr{d})) {
					t.Errorf("%v, %d, %d", d, i, n)
				}
			}
		}
	}
	// Lengths whose sum wraps round to the right one.
	b := laid(lineOf("quiet"))
	for _, pair := range [][2]uint32{{math.MaxUint32, 6}, {1 << 31, 1<<31 + 5}, {math.MaxUint32 - 4, 10}} {
		c := bytes.Clone(b)
		binary.BigEndian.PutUint32(c[16+28:], pair[0])
		binary.BigEndian.PutUint32(c[16+44:], pair[1])
		parseFails(t, c, api.ErrForm)
	}
}

// Numbers in the body that are no right one's: of 8 bytes and more than an
// integer holds, too.
func TestParseNumbers(t *testing.T) {
	for _, d := range oneEach() {
		b := laid(d)
		for _, at := range []int{16 + 4, 16 + 16} {
			was := binary.BigEndian.Uint64(b[at:])
			for _, n := range []uint64{1 << 63, 1<<63 + was, math.MaxUint64, math.MaxUint64 - was, api.MaxSize + 1, 1<<62 + was, 1<<48 + was} {
				c := bytes.Clone(b)
				binary.BigEndian.PutUint64(c[at:], n)
				parseFails(t, c, api.ErrForm)
			}
		}
		for _, at := range []int{16, 16 + 12, 16 + 24} {
			was := binary.BigEndian.Uint32(b[at:])
			for _, n := range []uint32{math.MaxUint32, 1<<31 + was, 1<<16 + was, 1<<24 + was, 33} {
				c := bytes.Clone(b)
				binary.BigEndian.PutUint32(c[at:], n)
				parseFails(t, c, api.ErrForm)
			}
		}
	}
}

func TestParseTooMany(t *testing.T) {
	b := laidAll(many(32))
	parses(t, b, many(32))
	// Ahead of all that may be wrong with the next one.
	for _, next := range [][]byte{laid(lineOf("x")), laid(propertyOf("fresh")), {0}, {1, 2, 3}, make([]byte, 15), filled(16, 0xff), bodied(5, nil), bodied(3, nil), laid(propertyOf("parta"))} {
		parseFails(t, append(bytes.Clone(b), next...), api.ErrBig)
	}
	for n := 33; n < 70; n++ {
		parseFails(t, laidAll(many(n)), api.ErrBig)
	}
}

// The first error is that of the first descriptor that has one, even if one
// behind it has an error that is named ahead.
func TestParseErrorsInTheirOrder(t *testing.T) {
	tag, short := bodied(5, nil), []byte{0, 0, 0}
	form := laid(with(lineOf("x"), func(d *Descr) { d.Alg = 1 }))
	long := laid(lineOf("quiet"))[:70]
	twice := laidAll([]Descr{hashOf("h"), hashOf("h")})
	twiceForm := append(laid(hashOf("h")), laid(with(hashOf("h"), func(d *Descr) { d.Alg = 1 }))...)
	for _, x := range []struct {
		parts [][]byte
		want  api.Errno
	}{
		{[][]byte{tag, form, short}, api.ErrTag},
		{[][]byte{form, tag, short}, api.ErrForm},
		{[][]byte{form, twice, tag}, api.ErrForm},
		{[][]byte{twice, form, tag}, api.ErrTwice},
		{[][]byte{twice, laidAll(many(32))}, api.ErrTwice},
		{[][]byte{twiceForm}, api.ErrForm},
		{[][]byte{laid(lineOf("x")), long}, api.ErrEnd},
		{[][]byte{laid(lineOf("x")), short}, api.ErrEnd},
		{[][]byte{laidAll(many(32)), tag}, api.ErrBig},
		{[][]byte{laidAll(many(31)), tag}, api.ErrTag},
		{[][]byte{laidAll(many(31)), laid(propertyOf("parta"))}, api.ErrTwice},
		{[][]byte{laidAll(many(31)), form, short}, api.ErrForm},
	} {
		parseFails(t, bytes.Join(x.parts, nil), x.want)
	}
}

// Against a model

// modelRight tells whether one is right, by a table of what its kind names.
func modelRight(d Descr) bool {
	if d.Kind < 0 || d.Kind > 4 {
		return false
	}
	digests := map[int]int{1: 32, 2: 64}
	name := len(d.Name) >= 1 && len(d.Name) <= 24
	for _, x := range []byte(d.Name) {
		name = name && (x >= 'a' && x <= 'z' || x >= '0' && x <= '9' || x == '_')
	}
	sum := digests[d.Alg] > 0 && len(d.Salt) <= 64 && len(d.Digest) == digests[d.Alg]
	power := d.Block == 64 || d.Block == 128 || d.Block == 256 || d.Block == 512 || d.Block == 1024 || d.Block == 2048 || d.Block == 4096
	shape := d.Size >= 1 && d.Size <= 1<<40 && power && d.Block >= 2*digests[d.Alg] && d.Off >= d.Size && d.Off <= 1<<40
	none := func(fields ...any) bool {
		for _, f := range fields {
			if v := reflect.ValueOf(f); v.Kind() == reflect.Slice && v.Len() != 0 || v.Kind() == reflect.Int && v.Int() != 0 {
				return false
			}
		}
		return true
	}
	return []bool{
		name && len(d.Value) <= 256 && none(d.Alg, d.Size, d.Block, d.Off, d.Location, d.Salt, d.Digest, d.Key),
		name && sum && shape && none(d.Location, d.Key, d.Value),
		name && sum && d.Size >= 0 && d.Size <= 1<<40 && none(d.Block, d.Off, d.Location, d.Key, d.Value),
		d.Name == "" && len(d.Value) <= 256 && none(d.Alg, d.Size, d.Block, d.Off, d.Location, d.Salt, d.Digest, d.Key),
		name && d.Location >= 1 && d.Location <= 31 && len(d.Key) >= 1 && len(d.Key) <= 1032 && none(d.Alg, d.Size, d.Block, d.Off, d.Salt, d.Digest, d.Value),
	}[d.Kind]
}

// modelTwice tells whether two of a list are like one.
func modelTwice(list []Descr) bool {
	type who struct {
		kind int
		name string
	}
	seen := map[who]int{}
	for _, d := range list {
		if d.Kind != 3 {
			seen[who{d.Kind, d.Name}]++
			if seen[who{d.Kind, d.Name}] > 1 {
				return true
			}
		}
	}
	return false
}

func modelEncode(list []Descr) ([]byte, api.Errno) {
	if len(list) > 32 {
		return nil, api.ErrBig
	}
	for _, d := range list {
		if !modelRight(d) {
			return nil, api.ErrForm
		}
	}
	if modelTwice(list) {
		return nil, api.ErrTwice
	}
	return laidAll(list), api.OK
}

// modelBody reads a body as far as it goes.
func modelBody(kind int, body []byte) (Descr, bool) {
	if len(body) < 48 {
		return Descr{}, false
	}
	small := func(at int) int { return int(binary.BigEndian.Uint32(body[at:])) }
	size, off := binary.BigEndian.Uint64(body[4:]), binary.BigEndian.Uint64(body[16:])
	if size > 1<<62 || off > 1<<62 {
		return Descr{}, false
	}
	d := Descr{Kind: kind, Alg: small(0), Size: int(size), Block: small(12), Off: int(off), Location: small(24)}
	rest := body[48:]
	var lists [5][]byte
	for i := range lists {
		n := small(28 + 4*i)
		if n > len(rest) {
			return Descr{}, false
		}
		lists[i], rest = rest[:n], rest[n:]
	}
	d.Name, d.Salt, d.Digest, d.Key, d.Value = string(lists[0]), lists[1], lists[2], lists[3], lists[4]
	return d, len(rest) < 8 && len(body)%8 == 0 && len(bytes.Trim(rest, "\x00")) == 0 && modelRight(d)
}

func modelParse(b []byte) ([]Descr, api.Errno) {
	var list []Descr
	for len(b) > 0 {
		if len(list) == 32 {
			return nil, api.ErrBig
		}
		if len(b) < 16 {
			return nil, api.ErrEnd
		}
		kind, n := binary.BigEndian.Uint64(b), binary.BigEndian.Uint64(b[8:])
		if kind > 4 {
			return nil, api.ErrTag
		}
		if n > uint64(len(b)-16) {
			return nil, api.ErrEnd
		}
		d, ok := modelBody(int(kind), b[16:16+n])
		if !ok {
			return nil, api.ErrForm
		}
		list = append(list, d)
		if modelTwice(list) {
			return nil, api.ErrTwice
		}
		b = b[16+n:]
	}
	return list, api.OK
}

// some is one of several.
func some[T any](r *rand.Rand, of ...T) T { return of[r.Intn(len(of))] }

// random is a descriptor that may be right.
func random(r *rand.Rand) Descr {
	d := with(some(r, oneEach()...), func(d *Descr) {
		if d.Kind != 3 {
			d.Name = some(r, "a", "b", "c", "boot", "system", "vendor_", "x1", "x2", "x3", "x4")
		}
	})
	for r.Intn(4) == 0 {
		n := some(r, 0, 1, 2, 3, 31, 32, 33, 63, 64, 65, 128, 256, 257, 1000, 1024, 1032, 1033, 4096, 8192, 1<<40, 1<<40+1, -1, r.Intn(5000))
		l := filled(max(0, n%1100), byte(n))
		some(r,
			func() { d.Kind = n }, func() { d.Kind = r.Intn(6) }, func() { d.Alg = n }, func() { d.Size = n }, func() { d.Block = n },
			func() { d.Off = n }, func() { d.Location = n }, func() { d.Salt = l }, func() { d.Digest = l }, func() { d.Key = l }, func() { d.Value = l },
			func() { d.Name = string(l) }, func() { d.Name = some(r, "", "A", "a b", "ok", strings.Repeat("n", n&31)) },
		)()
	}
	return d
}

func TestAgainstTheModel(t *testing.T) {
	r := rand.New(rand.NewSource(1))
	counts := map[api.Errno]int{}
	for range 20000 {
		var list []Descr
		for range some(r, 0, 1, 2, 3, 4, 5, 8, 31, 32, 33) {
			list = append(list, random(r))
		}
		if r.Intn(2) == 0 && len(list) > 5 {
			list = many(len(list))
		}
		for _, d := range list {
			if d.Right() != modelRight(d) {
				t.Fatalf("%v: %t", d, d.Right())
			}
		}
		b, e := Encode(list)
		if want, f := modelEncode(list); !bytes.Equal(b, want) || e != f {
			t.Fatalf("%v: %x, %d; not %x, %d", list, b, e, want, f)
		}
		counts[e]++
	}
	for _, e := range []api.Errno{api.OK, api.ErrBig, api.ErrForm, api.ErrTwice} {
		if counts[e] < 200 {
			t.Errorf("%d: %d times", e, counts[e])
		}
	}
}

// spoiltBytes are those of a list, something of which may be changed.
func spoiltBytes(r *rand.Rand) []byte {
	list := many(some(r, 1, 1, 2, 3, 5, 10, 31, 32, 33))
	if r.Intn(3) == 0 {
		list = append(list, random(r))
	}
	if r.Intn(8) == 0 {
		list = append(list, list[r.Intn(len(list))])
	}
	b := laidAll(list)
	for range r.Intn(4) {
		if len(b) == 0 {
			return b
		}
		at := r.Intn(len(b))
		some(r,
			func() { b[at] = byte(r.Intn(256)) }, func() { b[at]++ }, func() { b[at]-- }, func() { b[at] ^= 1 << r.Intn(8) },
			func() { b[min(at-at%8+7, len(b)-1)]++ }, func() { b[at] = some[byte](r, 0, 0xff, 0x80) },
			func() { b = b[:at+1] }, func() { b = append(b, make([]byte, r.Intn(20))...) },
			func() { b = append(bytes.Clone(b[:at]), b[at-at%8:]...) },
		)()
	}
	return b
}

func TestParseAgainstTheModel(t *testing.T) {
	r := rand.New(rand.NewSource(2))
	counts := map[api.Errno]int{}
	for range 40000 {
		b := spoiltBytes(r)
		list, e := Parse(b)
		if want, f := modelParse(b); !same(list, want) || e != f {
			t.Fatalf("%x: %v, %d; not %v, %d", b, list, e, want, f)
		}
		if e == api.OK {
			if c, f := Encode(list); f != api.OK || !bytes.Equal(c, b) {
				t.Fatalf("%x: %x, %d", b, c, f)
			}
		}
		counts[e]++
	}
	for _, e := range []api.Errno{api.OK, api.ErrBig, api.ErrForm, api.ErrTwice, api.ErrEnd, api.ErrTag} {
		if counts[e] < 200 {
			t.Errorf("%d: %d times", e, counts[e])
		}
	}
}

// Each bit of right bytes, turned.
func TestParseTurnedBits(t *testing.T) {
	b := laidAll(append(oneEach(), lineOf("x"), hashOf("h")))
	for i := range 8 * len(b) {
		c := bytes.Clone(b)
		c[i/8] ^= 1 << (i % 8)
		list, e := Parse(c)
		if want, f := modelParse(c); !same(list, want) || e != f {
			t.Fatalf("%d: %v, %d; not %v, %d", i, list, e, want, f)
		}
	}
}

// The rule of memory

// roomy is b with spare room of 0xEE behind it.
func roomy(b []byte) []byte {
	room := append(bytes.Clone(b), filled(100, 0xEE)...)
	return room[:len(b)]
}

// intact tells whether b is still want, and its spare room as roomy made it.
func intact(b []byte, want []byte) bool {
	return bytes.Equal(b, want) && bytes.Equal(b[:cap(b)][len(b):len(b)+100], filled(100, 0xEE))
}

// spoil overwrites bytes and their spare room.
func spoil(b []byte) {
	b = b[:cap(b)]
	for i := range b {
		b[i] = 0x55
	}
}

// spoilDescr spoils what a descriptor shares with whoever has it.
func spoilDescr(d Descr) {
	for _, l := range [][]byte{d.Salt, d.Digest, d.Key, d.Value} {
		spoil(l)
	}
}

func TestEncodeLeavesItsArgument(t *testing.T) {
	list := many(32)
	for i := range list {
		d := &list[i]
		d.Salt, d.Digest, d.Key, d.Value = roomy(d.Salt), roomy(d.Digest), roomy(d.Key), roomy(d.Value)
	}
	room := append(list, lineOf("spare"))[:32]
	want := laidAll(list)
	first, e := Encode(room)
	if e != api.OK || !bytes.Equal(first, want) {
		t.Fatalf("%d", e)
	}
	for i, d := range room {
		was := many(32)[i]
		if !d.Right() || !same([]Descr{d}, []Descr{was}) || !intact(d.Salt, was.Salt) || !intact(d.Digest, was.Digest) || !intact(d.Key, was.Key) || !intact(d.Value, was.Value) {
			t.Fatalf("%d: %v", i, d)
		}
	}
	if !same(room[:33][32:], []Descr{lineOf("spare")}) {
		t.Error("spare room")
	}
	spoil(first)
	second, e := Encode(room)
	if e != api.OK || !bytes.Equal(second, want) {
		t.Fatalf("%d", e)
	}
	for _, d := range room {
		spoilDescr(d)
	}
	if !bytes.Equal(second, want) {
		t.Error("an answer shares memory with an argument")
	}
}

func TestParseLeavesItsArgument(t *testing.T) {
	want := append(oneEach(), lineOf("x"), hashOf("h"), chainOf("c"))
	bytesOf := laidAll(want)
	b := roomy(bytesOf)
	first, e := Parse(b)
	if e != api.OK || !same(first, want) || !intact(b, bytesOf) {
		t.Fatalf("%v, %d", first, e)
	}
	second, e := Parse(b)
	if e != api.OK {
		t.Fatal(e)
	}
	// No two lists of one answer, and no two answers, share memory.
	for i := range first {
		spoilDescr(first[i])
		if !same(first[i+1:], want[i+1:]) || !same(second, want) || !intact(b, bytesOf) {
			t.Fatalf("%d: %v", i, first)
		}
	}
	spoil(b[:cap(b)])
	if !same(second, want) {
		t.Errorf("%v", second)
	}
	for _, turn := range []func(d Descr) []byte{func(d Descr) []byte { return d.Salt }, func(d Descr) []byte { return d.Digest }} {
		list, _ := Parse(bytesOf)
		spoil(turn(list[1]))
		for _, d := range []Descr{list[0], list[2], list[3], list[4]} {
			if !same([]Descr{d}, want[d.Kind:d.Kind+1]) {
				t.Errorf("%v", d)
			}
		}
		if list[1].Name != "boot" {
			t.Errorf("%v", list[1])
		}
	}
	list, _ := Parse(bytesOf)
	spoil(list[1].Salt)
	if !bytes.Equal(list[1].Digest, want[1].Digest) {
		t.Error("two lists of one descriptor share memory")
	}
}

// What is refused changes nothing.
func TestRefusedLeavesItsArgument(t *testing.T) {
	for _, bytesOf := range [][]byte{laidAll(many(33)), laid(lineOf("quiet"))[:70], bodied(5, nil), laidAll([]Descr{hashOf("h"), hashOf("h")}), laid(with(lineOf("x"), func(d *Descr) { d.Alg = 1 }))} {
		b := roomy(bytesOf)
		if list, e := Parse(b); len(list) != 0 || e == api.OK || !intact(b, bytesOf) {
			t.Fatalf("%v, %d", list, e)
		}
	}
	d := with(hashOf("h"), func(d *Descr) { d.Salt, d.Key = roomy(d.Salt), roomy([]byte("key")) })
	if d.Right() || !intact(d.Salt, []byte("pepper")) || !intact(d.Key, []byte("key")) {
		t.Errorf("%v", d)
	}
	refuses(t, []Descr{d}, api.ErrForm)
	if !intact(d.Salt, []byte("pepper")) || !intact(d.Key, []byte("key")) {
		t.Errorf("%v", d)
	}
}
