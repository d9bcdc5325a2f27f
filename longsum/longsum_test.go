package longsum

import (
	"bytes"
	"crypto/sha512"
	"encoding/hex"
	"math/big"
	"strings"
	"testing"
)

// text is n bytes that differ from place to place and from block to block.
func text(n int) []byte {
	b := make([]byte, n)
	for i := range b {
		b[i] = byte(i*i*7 + i>>7 + i>>3 + 11)
	}
	return b
}

// right is the sum as the library has it.
func right(parts ...[]byte) []byte {
	s := sha512.Sum512(bytes.Join(parts, nil))
	return s[:]
}

func firstPrimes(n int) []int64 {
	var out []int64
next:
	for p := int64(2); len(out) < n; p++ {
		for _, q := range out {
			if p%q == 0 {
				continue next
			}
		}
		out = append(out, p)
	}
	return out
}

// rootBits are the first 64 bits behind the point of the root of p of that
// degree: the greatest r whose power is at most p * 2^(64*degree), less its
// whole part.
func rootBits(p int64, degree int64) uint64 {
	limit := new(big.Int).Lsh(big.NewInt(p), uint(64*degree))
	r := new(big.Int)
	for bit := 72; bit >= 0; bit-- {
		more := new(big.Int).SetBit(r, bit, 1)
		if new(big.Int).Exp(more, big.NewInt(degree), nil).Cmp(limit) <= 0 {
			r = more
		}
	}
	low := new(big.Int).SetUint64(1<<64 - 1)
	return low.And(low, r).Uint64()
}

// spoil writes over a list and its spare room.
func spoil(b []byte) {
	b = b[:cap(b)]
	for i := range b {
		b[i] ^= 0xa5
	}
}

// P3.1

func TestSizes(t *testing.T) {
	if Size != 64 || Block != 128 {
		t.Error(Size, Block)
	}
}

func TestTablesAreRootsOfPrimes(t *testing.T) {
	for i, p := range firstPrimes(80) {
		if rounds[i] != rootBits(p, 3) {
			t.Errorf("round %d: %016x", i, rounds[i])
		}
		if i < len(start) && start[i] != rootBits(p, 2) {
			t.Errorf("start %d: %016x", i, start[i])
		}
	}
}

func TestTurnedIsEveryTurnByXor(t *testing.T) {
	for _, x := range []struct {
		word uint64
		by   []int
		want uint64
	}{
		{0x0123456789abcdef, nil, 0},
		{0x0123456789abcdef, []int{0}, 0x0123456789abcdef},
		{0x0123456789abcdef, []int{4}, 0xf0123456789abcde},
		{1, []int{1}, 1 << 63},
		{1, []int{63}, 2},
		{1, []int{1, 8}, 1<<63 | 1<<56},
		{1, []int{14, 18, 41}, 1<<50 | 1<<46 | 1<<23},
		{1 << 40, []int{28, 34, 39}, 1<<12 | 1<<6 | 1<<1},
		{0xff, []int{8, 8}, 0},
	} {
		if got := turned(x.word, x.by...); got != x.want {
			t.Errorf("%x by %v: %x", x.word, x.by, got)
		}
	}
}

func TestOfKnownTexts(t *testing.T) {
	for _, x := range []struct{ text, want string }{
		{"", "cf83e1357eefb8bdf1542850d66d8007d620e4050b5715dc83f4a921d36ce9ce" +
			"47d0d13c5d85f2b0ff8318d2877eec2f63b931bd47417a81a538327af927da3e"},
		{"abc", "ddaf35a193617abacc417349ae20413112e6fa4e89a97ea20a9eeee64b55d39a" +
			"2192992a274fc1a836ba3c23a3feebbd454d4423643ce80e2a9ac94fa54ca49f"},
		{"abcdefghbcdefghicdefghijdefghijkefghijklfghijklmghijklmnhijklmnoijklmnopjklmnopqklmnopqrlmnopqrsmnopqrstnopqrstu",
			"8e959b75dae313da8cf4f72814fc143f8f7779c6eb9f7fa17299aeadb6889018" +
				"501d289e4900f7e4331b99dec4b5433ac7d329eeb6dd26545e96e55b874be909"},
		{strings.Repeat("a", 1000000), "e718483d0ce769644e2e42c7bc15b4638e1f98b13b2044285632a803afa973eb" +
			"de0ff244877ea60a4cb0432ce577c31beb009c5c2c49aa2e4eadb217ad8cc09b"},
	} {
		if s := hex.EncodeToString(Of([]byte(x.text))); s != x.want {
			t.Errorf("%.20q: %s", x.text, s)
		}
	}
}

func TestOfEveryLengthAboutBlocks(t *testing.T) {
	for n := range 6*Block + 2 {
		b := text(n)
		if s := Of(b); !bytes.Equal(s, right(b)) {
			t.Errorf("%d bytes: %x", n, s)
		}
	}
}

func TestOfEveryByteCounts(t *testing.T) {
	b := text(3*Block + 5)
	for i := range b {
		b[i] ^= 0x10
		if s := Of(b); !bytes.Equal(s, right(b)) {
			t.Errorf("byte %d turned: %x", i, s)
		}
	}
}

func TestOfBytesAlike(t *testing.T) {
	for _, x := range []byte{0, 1, 0x7f, 0x80, 0xff} {
		for _, n := range []int{1, 111, 112, 119, 120, 127, 128, 129, 239, 240, 256} {
			b := bytes.Repeat([]byte{x}, n)
			if s := Of(b); !bytes.Equal(s, right(b)) {
				t.Errorf("%d bytes %d: %x", n, x, s)
			}
		}
	}
}

// The length in bits needs more than 32 bits from 2^29 bytes on.
func TestOfALengthPastThirtyTwoBits(t *testing.T) {
	piece := text(1 << 20)
	parts := make([][]byte, 1<<9+1)
	want := sha512.New()
	for i := range parts {
		parts[i] = piece
		want.Write(piece)
	}
	if s := Of(parts...); !bytes.Equal(s, want.Sum(nil)) {
		t.Errorf("%x", s)
	}
}

func TestEndingHasTheLengthInHundredTwentyEightBits(t *testing.T) {
	high := strings.Repeat("00", 8)
	for _, x := range []struct {
		length uint64
		want   string
	}{
		{0, "80" + strings.Repeat("00", 111) + high + "0000000000000000"},
		{111, "80" + high + "0000000000000378"},
		{112, "80" + strings.Repeat("00", 127) + high + "0000000000000380"},
		{127, "80" + strings.Repeat("00", 112) + high + "00000000000003f8"},
		{1<<31 - 1 - 16, "80" + high + "00000003ffffff78"},
		{0x0102030405060700 + 111, "80" + high + "0810182028303b78"},
		{1<<61 + 111, "80" + "0000000000000001" + "0000000000000378"},
		{1<<64 - 1 - 16, "80" + "0000000000000007" + "ffffffffffffff78"},
	} {
		if s := hex.EncodeToString(ending(x.length)); s != x.want {
			t.Errorf("%d: %s", x.length, s)
		}
	}
}

func TestOfPartsIsOfOneBehindTheOther(t *testing.T) {
	b := text(5*Block + 3)
	want := right(b)
	for i := range len(b) + 1 {
		if s := Of(b[:i], b[i:]); !bytes.Equal(s, want) {
			t.Errorf("cut at %d: %x", i, s)
		}
	}
	for size := 1; size <= 2*Block+1; size++ {
		var parts [][]byte
		for at := 0; at < len(b); at += size {
			parts = append(parts, b[at:min(at+size, len(b))])
		}
		if s := Of(parts...); !bytes.Equal(s, want) {
			t.Errorf("parts of %d: %x", size, s)
		}
	}
}

func TestOfPartsInTheirOrder(t *testing.T) {
	one, two := []byte("one"), []byte("two")
	if bytes.Equal(Of(one, two), Of(two, one)) {
		t.Error("the order does not count")
	}
	if s := Of(two, one, two); !bytes.Equal(s, right([]byte("twoonetwo"))) {
		t.Errorf("%x", s)
	}
}

func TestOfManyParts(t *testing.T) {
	parts := make([][]byte, 5000)
	for i := range parts {
		parts[i] = text(i % 261)
	}
	if s := Of(parts...); !bytes.Equal(s, right(parts...)) {
		t.Errorf("%x", s)
	}
}

func TestOfNothing(t *testing.T) {
	want := right()
	for i, parts := range [][][]byte{nil, {}, {nil}, {{}}, {nil, {}, nil}, make([][]byte, 300)} {
		if s := Of(parts...); !bytes.Equal(s, want) {
			t.Errorf("%d: %x", i, s)
		}
	}
	b := text(Block + 9)
	if s := Of(nil, b[:10], []byte{}, nil, b[10:Block], []byte{}, b[Block:], nil); !bytes.Equal(s, right(b)) {
		t.Errorf("%x", s)
	}
}

// P3.2

func TestNewIsOfNothing(t *testing.T) {
	h := New()
	if s := h.Sum(); !bytes.Equal(s, right()) {
		t.Errorf("%x", s)
	}
	h.Write(nil)
	h.Write([]byte{})
	if s := h.Sum(); !bytes.Equal(s, right()) {
		t.Errorf("%x", s)
	}
}

func TestWriteStandsBehindWhatWasWritten(t *testing.T) {
	b := text(4*Block + 1)
	for i := range len(b) + 1 {
		h := New()
		h.Write(b[:i])
		h.Write(b[i:])
		if s := h.Sum(); !bytes.Equal(s, right(b)) {
			t.Errorf("cut at %d: %x", i, s)
		}
	}
}

func TestWriteOfAnyTwoLengths(t *testing.T) {
	b := text(4*Block + 4)
	for i := range 2*Block + 2 {
		for k := range 2*Block + 2 {
			h := New()
			h.Write(b[:i])
			h.Write(b[i : i+k])
			if s := h.Sum(); !bytes.Equal(s, right(b[:i+k])) {
				t.Errorf("%d and %d bytes: %x", i, k, s)
			}
		}
	}
}

func TestSumGoesOn(t *testing.T) {
	b := text(5*Block + 7)
	h := New()
	for i := range b {
		h.Write(b[i : i+1])
		if s := h.Sum(); !bytes.Equal(s, right(b[:i+1])) {
			t.Errorf("behind %d bytes: %x", i+1, s)
		}
	}
}

func TestSumAgainIsTheSame(t *testing.T) {
	for _, n := range []int{0, 1, 111, 112, 127, 128, 129, 400} {
		h := New()
		h.Write(text(n))
		first, again := h.Sum(), h.Sum()
		if !bytes.Equal(first, again) || !bytes.Equal(first, right(text(n))) {
			t.Errorf("%d bytes: %x, %x", n, first, again)
		}
	}
}

func TestWritesOfNothingChangeNothing(t *testing.T) {
	b := text(2*Block + 20)
	h := New()
	for i := range b {
		h.Write(nil)
		h.Write(b[i : i+1])
		h.Write(b[i:i])
	}
	if s := h.Sum(); !bytes.Equal(s, right(b)) {
		t.Errorf("%x", s)
	}
}

func TestTwoSumsUnderWay(t *testing.T) {
	one, two := New(), New()
	var a, b []byte
	for i := range 300 {
		p, q := text(i%131), text(i%91 + 3)[3:]
		one.Write(p)
		two.Write(q)
		a, b = append(a, p...), append(b, q...)
		if s := one.Sum(); !bytes.Equal(s, right(a)) {
			t.Fatalf("the one, behind write %d: %x", i, s)
		}
		if s := Of(p, q); !bytes.Equal(s, right(p, q)) {
			t.Fatalf("a sum between, behind write %d: %x", i, s)
		}
		if s := two.Sum(); !bytes.Equal(s, right(b)) {
			t.Fatalf("the other, behind write %d: %x", i, s)
		}
	}
	if s := New().Sum(); !bytes.Equal(s, right()) {
		t.Errorf("a new one: %x", s)
	}
}

func TestSumsOfSeveralGoroutines(t *testing.T) {
	done := make(chan bool)
	for i := range 8 {
		go func() {
			b := text(3000 + i)
			h := New()
			h.Write(b)
			done <- bytes.Equal(h.Sum(), right(b))
		}()
	}
	for range 8 {
		if !<-done {
			t.Error("sums of their own meet")
		}
	}
}

// The rule of memory

func TestWriteKeepsNothingOfItsArgument(t *testing.T) {
	for _, n := range []int{1, 20, 127, 128, 129, 255, 256, 300} {
		b := text(n)
		h := New()
		h.Write(b)
		clear(b)
		h.Write([]byte("more"))
		if s := h.Sum(); !bytes.Equal(s, right(text(n), []byte("more"))) {
			t.Errorf("%d bytes: %x", n, s)
		}
	}
}

func TestArgumentsStayAsTheyAre(t *testing.T) {
	for _, n := range []int{0, 1, 111, 112, 128, 200} {
		room := text(500)
		h := New()
		h.Write(room[:n])
		h.Sum()
		Of(room[:n], room[:n/2])
		if !bytes.Equal(room, text(500)) {
			t.Errorf("%d bytes, or their spare room, changed", n)
		}
	}
	a, b := text(130), text(140)
	parts := [][]byte{a, nil, b}
	Of(parts...)
	if &parts[0][0] != &a[0] || parts[1] != nil || &parts[2][0] != &b[0] || len(parts[0]) != 130 || len(parts[2]) != 140 {
		t.Error("the list of parts changed")
	}
}

func TestSumIsNewMemory(t *testing.T) {
	b := text(Block + 9)
	h := New()
	h.Write(b)
	first, again := h.Sum(), h.Sum()
	spoil(first)
	if !bytes.Equal(again, right(b)) {
		t.Errorf("two answers share: %x", again)
	}
	spoil(again)
	h.Write(b)
	if s := h.Sum(); !bytes.Equal(s, right(b, b)) {
		t.Errorf("an answer and the sum under way share: %x", s)
	}
	one, two := Of(b), Of(b)
	spoil(one)
	if !bytes.Equal(two, right(b)) || !bytes.Equal(b, text(Block+9)) {
		t.Errorf("%x", two)
	}
}

func TestSumIsSizeBytes(t *testing.T) {
	for _, n := range []int{0, 1, 128, 1000} {
		h := New()
		h.Write(text(n))
		if len(h.Sum()) != Size || len(Of(text(n))) != Size {
			t.Error(n)
		}
	}
}
