package shortsum

import (
	"bytes"
	"crypto/sha256"
	"encoding/hex"
	"math/big"
	"strings"
	"testing"
)

// text is n bytes that differ from place to place and from block to block.
func text(n int) []byte {
	b := make([]byte, n)
	for i := range b {
		b[i] = byte(i*i*7 + i>>6 + i>>3 + 11)
	}
	return b
}

// right is the sum as the library has it.
func right(parts ...[]byte) []byte {
	s := sha256.Sum256(bytes.Join(parts, nil))
	return s[:]
}

func firstPrimes(n int) []int64 {
	var out []int64
next:
	for p := int64(2); len(out) < n; p++ {
		for _, q := range out {
			if p%q == 0 {
				continue next
			}
		}
		out = append(out, p)
	}
	return out
}

// rootBits are the first 32 bits behind the point of the root of p of that
// degree: the greatest r whose power is at most p * 2^(32*degree), less its
// whole part.
func rootBits(p int64, degree int64) uint32 {
	limit := new(big.Int).Lsh(big.NewInt(p), uint(32*degree))
	r := new(big.Int)
	for bit := 40; bit >= 0; bit-- {
		more := new(big.Int).SetBit(r, bit, 1)
		if new(big.Int).Exp(more, big.NewInt(degree), nil).Cmp(limit) <= 0 {
			r = more
		}
	}
	return uint32(r.Uint64())
}

// P2.1

func TestSizes(t *testing.T) {
	if Size != 32 || Block != 64 {
		t.Error(Size, Block)
	}
}

func TestTablesAreRootsOfPrimes(t *testing.T) {
	for i, p := range firstPrimes(64) {
		if rounds[i] != rootBits(p, 3) {
			t.Errorf("round %d: %08x", i, rounds[i])
		}
		if i < len(start) && start[i] != rootBits(p, 2) {
			t.Errorf("start %d: %08x", i, start[i])
		}
	}
}

func TestOfKnownTexts(t *testing.T) {
	for _, x := range []struct{ text, want string }{
		{"", "e3b0c44298fc1c149afbf4c8996fb92427ae41e4649b934ca495991b7852b855"},
		{"abc", "ba7816bf8f01cfea414140de5dae2223b00361a396177a9cb410ff61f20015ad"},
		{
			"abcdbcdecdefdefgefghfghighijhijkijkljklmklmnlmnomnopnopq",
			"248d6a61d20638b8e5c026930c3e6039a33ce45964ff2167f6ecedd419db06c1",
		},
		{
			"abcdefghbcdefghicdefghijdefghijkefghijklfghijklmghijklmnhijklmnoijklmnopjklmnopqklmnopqrlmnopqrsmnopqrstnopqrstu",
			"cf5b16a778af8380036ce59e7b0492370b249b11e8f07a51afac45037afee9d1",
		},
		{strings.Repeat("a", 1000000), "cdc76e5c9914fb9281a1c7e284d73e67f1809a48a497200e046d39ccc7112cd0"},
	} {
		if s := hex.EncodeToString(Of([]byte(x.text))); s != x.want {
			t.Errorf("%.20q: %s", x.text, s)
		}
	}
}

func TestOfEveryLengthAboutBlocks(t *testing.T) {
	for n := range 6*Block + 2 {
		b := text(n)
		if s := Of(b); !bytes.Equal(s, right(b)) {
			t.Errorf("%d bytes: %x", n, s)
		}
	}
}

func TestOfEveryByteCounts(t *testing.T) {
	b := text(3*Block + 5)
	for i := range b {
		b[i] ^= 0x10
		if s := Of(b); !bytes.Equal(s, right(b)) {
			t.Errorf("byte %d turned: %x", i, s)
		}
	}
}

func TestOfBytesAlike(t *testing.T) {
	for _, x := range []byte{0, 1, 0x7f, 0x80, 0xff} {
		for _, n := range []int{1, 55, 56, 63, 64, 65, 119, 120, 128} {
			b := bytes.Repeat([]byte{x}, n)
			if s := Of(b); !bytes.Equal(s, right(b)) {
				t.Errorf("%d bytes %d: %x", n, x, s)
			}
		}
	}
}

// The length in bits needs more than 32 bits from 2^29 bytes on.
func TestOfALengthPastThirtyTwoBits(t *testing.T) {
	piece := text(1 << 20)
	parts := make([][]byte, 1<<9+1)
	want := sha256.New()
	for i := range parts {
		parts[i] = piece
		want.Write(piece)
	}
	if s := Of(parts...); !bytes.Equal(s, want.Sum(nil)) {
		t.Errorf("%x", s)
	}
}

func TestEndingHasTheLengthInSixtyFourBits(t *testing.T) {
	for _, x := range []struct {
		length uint64
		want   string
	}{
		{0, "8000" + strings.Repeat("00", 54) + "0000000000000000"},
		{55, "80" + "00000000000001b8"},
		{56, "80" + strings.Repeat("00", 63) + "00000000000001c0"},
		{63, "80" + strings.Repeat("00", 56) + "00000000000001f8"},
		{1<<31 - 1 - 8, "80" + "00000003ffffffb8"},
		{0x0102030405060700 + 55, "80" + "08101820283039b8"},
	} {
		if s := hex.EncodeToString(ending(x.length)); s != x.want {
			t.Errorf("%d: %s", x.length, s)
		}
	}
}

func TestOfPartsIsOfOneBehindTheOther(t *testing.T) {
	b := text(5*Block + 3)
	want := right(b)
	for i := range len(b) + 1 {
		if s := Of(b[:i], b[i:]); !bytes.Equal(s, want) {
			t.Errorf("cut at %d: %x", i, s)
		}
	}
	for size := 1; size <= 2*Block+1; size++ {
		var parts [][]byte
		for at := 0; at < len(b); at += size {
			parts = append(parts, b[at:min(at+size, len(b))])
		}
		if s := Of(parts...); !bytes.Equal(s, want) {
			t.Errorf("parts of %d: %x", size, s)
		}
	}
}

func TestOfPartsInTheirOrder(t *testing.T) {
	one, two := []byte("one"), []byte("two")
	if bytes.Equal(Of(one, two), Of(two, one)) {
		t.Error("the order does not count")
	}
	if s := Of(two, one, two); !bytes.Equal(s, right([]byte("twoonetwo"))) {
		t.Errorf("%x", s)
	}
}

func TestOfManyParts(t *testing.T) {
	parts := make([][]byte, 5000)
	for i := range parts {
		parts[i] = text(i % 131)
	}
	if s := Of(parts...); !bytes.Equal(s, right(parts...)) {
		t.Errorf("%x", s)
	}
}

func TestOfNothing(t *testing.T) {
	want := right()
	for i, parts := range [][][]byte{nil, {}, {nil}, {{}}, {nil, {}, nil}, make([][]byte, 300)} {
		if s := Of(parts...); !bytes.Equal(s, want) {
			t.Errorf("%d: %x", i, s)
		}
	}
	b := text(Block + 9)
	if s := Of(nil, b[:10], []byte{}, nil, b[10:Block], []byte{}, b[Block:], nil); !bytes.Equal(s, right(b)) {
		t.Errorf("%x", s)
	}
}

// P2.2

func TestNewIsOfNothing(t *testing.T) {
	h := New()
	if s := h.Sum(); !bytes.Equal(s, right()) {
		t.Errorf("%x", s)
	}
	h.Write(nil)
	h.Write([]byte{})
	if s := h.Sum(); !bytes.Equal(s, right()) {
		t.Errorf("%x", s)
	}
}

func TestWriteStandsBehindWhatWasWritten(t *testing.T) {
	b := text(4*Block + 1)
	for i := range len(b) + 1 {
		h := New()
		h.Write(b[:i])
		h.Write(b[i:])
		if s := h.Sum(); !bytes.Equal(s, right(b)) {
			t.Errorf("cut at %d: %x", i, s)
		}
	}
}

func TestWriteOfAnyTwoLengths(t *testing.T) {
	b := text(300)
	for i := range 2*Block + 2 {
		for k := range 2*Block + 2 {
			h := New()
			h.Write(b[:i])
			h.Write(b[i : i+k])
			if s := h.Sum(); !bytes.Equal(s, right(b[:i+k])) {
				t.Errorf("%d and %d bytes: %x", i, k, s)
			}
		}
	}
}

func TestSumGoesOn(t *testing.T) {
	b := text(5*Block + 7)
	h := New()
	for i := range b {
		h.Write(b[i : i+1])
		if s := h.Sum(); !bytes.Equal(s, right(b[:i+1])) {
			t.Errorf("behind %d bytes: %x", i+1, s)
		}
	}
}

func TestSumAgainIsTheSame(t *testing.T) {
	for _, n := range []int{0, 1, 55, 56, 63, 64, 65, 200} {
		h := New()
		h.Write(text(n))
		first, again := h.Sum(), h.Sum()
		if !bytes.Equal(first, again) || !bytes.Equal(first, right(text(n))) {
			t.Errorf("%d bytes: %x, %x", n, first, again)
		}
	}
}

func TestWritesOfNothingChangeNothing(t *testing.T) {
	b := text(2*Block + 20)
	h := New()
	for i := range b {
		h.Write(nil)
		h.Write(b[i : i+1])
		h.Write(b[i:i])
	}
	if s := h.Sum(); !bytes.Equal(s, right(b)) {
		t.Errorf("%x", s)
	}
}

func TestTwoSumsUnderWay(t *testing.T) {
	one, two := New(), New()
	var a, b []byte
	for i := range 200 {
		p, q := text(i%67), text(i%91 + 3)[3:]
		one.Write(p)
		two.Write(q)
		a, b = append(a, p...), append(b, q...)
		if s := one.Sum(); !bytes.Equal(s, right(a)) {
			t.Fatalf("the one, behind write %d: %x", i, s)
		}
		if s := Of(p, q); !bytes.Equal(s, right(p, q)) {
			t.Fatalf("a sum between, behind write %d: %x", i, s)
		}
		if s := two.Sum(); !bytes.Equal(s, right(b)) {
			t.Fatalf("the other, behind write %d: %x", i, s)
		}
	}
	if s := New().Sum(); !bytes.Equal(s, right()) {
		t.Errorf("a new one: %x", s)
	}
}

func TestSumsOfSeveralGoroutines(t *testing.T) {
	done := make(chan bool)
	for i := range 8 {
		go func() {
			b := text(3000 + i)
			h := New()
			h.Write(b)
			done <- bytes.Equal(h.Sum(), right(b))
		}()
	}
	for range 8 {
		if !<-done {
			t.Error("sums of their own meet")
		}
	}
}

// The rule of memory

func TestWriteKeepsNothingOfItsArgument(t *testing.T) {
	for _, n := range []int{1, 20, 63, 64, 65, 127, 128, 150} {
		b := text(n)
		h := New()
		h.Write(b)
		clear(b)
		h.Write([]byte("more"))
		if s := h.Sum(); !bytes.Equal(s, right(text(n), []byte("more"))) {
			t.Errorf("%d bytes: %x", n, s)
		}
	}
}

func TestArgumentsStayAsTheyAre(t *testing.T) {
	for _, n := range []int{0, 1, 55, 56, 64, 100} {
		room := text(300)
		h := New()
		h.Write(room[:n])
		h.Sum()
		Of(room[:n], room[:n/2])
		if !bytes.Equal(room, text(300)) {
			t.Errorf("%d bytes, or their spare room, changed", n)
		}
	}
	a, b := text(70), text(80)
	parts := [][]byte{a, nil, b}
	Of(parts...)
	if &parts[0][0] != &a[0] || parts[1] != nil || &parts[2][0] != &b[0] || len(parts[0]) != 70 || len(parts[2]) != 80 {
		t.Error("the list of parts changed")
	}
}

func TestSumIsNewMemory(t *testing.T) {
	b := text(Block + 9)
	h := New()
	h.Write(b)
	first, again := h.Sum(), h.Sum()
	spoil(first)
	if !bytes.Equal(again, right(b)) {
		t.Errorf("two answers share: %x", again)
	}
	spoil(again)
	h.Write(b)
	if s := h.Sum(); !bytes.Equal(s, right(b, b)) {
		t.Errorf("an answer and the sum under way share: %x", s)
	}
	one, two := Of(b), Of(b)
	spoil(one)
	if !bytes.Equal(two, right(b)) || !bytes.Equal(b, text(Block+9)) {
		t.Errorf("%x", two)
	}
}

// spoil writes over a list and its spare room.
func spoil(b []byte) {
	b = b[:cap(b)]
	for i := range b {
		b[i] ^= 0xa5
	}
}

func TestSumIsSizeBytes(t *testing.T) {
	for _, n := range []int{0, 1, 64, 1000} {
		h := New()
		h.Write(text(n))
		if len(h.Sum()) != Size || len(Of(text(n))) != Size {
			t.Error(n)
		}
	}
}
