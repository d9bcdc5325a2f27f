package grove

import (
	"bytes"
	"crypto/sha256"
	"crypto/sha512"
	"encoding/hex"
	"math"
	"math/rand"
	"slices"
	"testing"

	"sallyport/api"
	"sallyport/place"
)

// The numbers that are none of an algorithm.
func noAlgs() []int {
	return []int{0, -1, -2, 3, 4, 9, 32, 64, 256, 257, 258, 1<<16 + 1, 1<<32 + 1, 1<<32 + 2, math.MaxInt, math.MinInt, math.MinInt + 1}
}

// kind is an algorithm, how long its digests are, and a block that it may have.
type kind struct{ alg, digest, block int }

// kinds are all that are right.
func kinds() []kind {
	var all []kind
	for block := 64; block <= 4096; block *= 2 {
		all = append(all, kind{1, 32, block})
		if block > 64 {
			all = append(all, kind{2, 64, block})
		}
	}
	return all
}

// wrongBlocks are blocks that a tree of the algorithm may not have.
func wrongBlocks(alg int) []int {
	wrong := []int{0, 1, 2, 16, 31, 32, 33, 63, 65, 96, 127, 129, 192, 1000, 4095, 4097, 8192, 1 << 16, 1 << 32, 1<<32 + 64, 1<<32 + 128,
		-1, -64, -128, -4096, math.MaxInt, math.MinInt, math.MinInt + 64, math.MinInt + 128, 1 << 62}
	if alg == 2 {
		wrong = append(wrong, 64)
	}
	return wrong
}

// libDigest is a digest, reckoned by the library.
func libDigest(alg int, salt []byte, text []byte) []byte {
	all := slices.Concat(salt, text)
	if alg == 1 {
		s := sha256.Sum256(all)
		return s[:]
	}
	s := sha512.Sum512(all)
	return s[:]
}

// random are so many bytes, as the numbers of r have it.
func random(r *rand.Rand, size int) []byte {
	b := make([]byte, size)
	r.Read(b)
	return b
}

// wood is a tree reckoned by other means: its levels, from 0 on, each of its
// blocks, which are filled digest by digest at the place that each has.
type wood struct {
	kind
	salt   []byte
	levels [][][]byte
}

func plant(k kind, salt []byte, data []byte) wood {
	w := wood{kind: k, salt: salt}
	w.levels = append(w.levels, make([][]byte, (len(data)-1)/k.block+1))
	for i := range w.levels[0] {
		w.levels[0][i] = make([]byte, k.block)
		copy(w.levels[0][i], data[i*k.block:])
	}
	for len(w.top()) > 1 {
		below, arity := w.top(), k.block/k.digest
		level := make([][]byte, (len(below)-1)/arity+1)
		for i := range level {
			level[i] = make([]byte, k.block)
		}
		for i, b := range below {
			copy(level[i/arity][i%arity*k.digest:], libDigest(k.alg, salt, b))
		}
		w.levels = append(w.levels, level)
	}
	return w
}

func (w wood) top() [][]byte { return w.levels[len(w.levels)-1] }

func (w wood) root() []byte { return libDigest(w.alg, w.salt, w.top()[0]) }

// bytes are the levels above 0, the top first.
func (w wood) bytes() []byte {
	var all []byte
	for level := len(w.levels) - 1; level > 0; level-- {
		all = append(all, bytes.Join(w.levels[level], nil)...)
	}
	return all
}

// path are the blocks from the one of level 0 up to the top, in new memory.
func (w wood) path(i int) [][]byte {
	var all [][]byte
	for _, level := range w.levels {
		all = append(all, bytes.Clone(level[i]))
		i /= w.block / w.digest
	}
	return all
}

// sizes are some of data: about the ends of blocks and of levels, and others.
func sizes(r *rand.Rand, k kind) []int {
	arity := k.block / k.digest
	all := []int{1, 2, k.block - 1, k.block, k.block + 1, 2 * k.block, 2*k.block + 1, 3*k.block - 1}
	for n := arity; n*k.block <= 40000; n *= arity {
		all = append(all, n*k.block-k.block, n*k.block-1, n*k.block, n*k.block+1, n*k.block+k.block)
	}
	for range 4 {
		all = append(all, 1+r.Intn(20*k.block))
	}
	return slices.DeleteFunc(all, func(n int) bool { return n < 1 })
}

// salts are some that are right.
func salts(r *rand.Rand) [][]byte {
	return [][]byte{nil, {}, {0}, []byte("salt"), random(r, 63), random(r, 64), make([]byte, 64)}
}

// P9.1

// isMade checks a tree and its root, and Root with them.
func isMade(t *testing.T, w wood, data []byte) (tree []byte, root []byte) {
	t.Helper()
	tree, root, e := Make(w.alg, w.salt, w.block, data)
	if e != api.OK || !bytes.Equal(tree, w.bytes()) || !bytes.Equal(root, w.root()) {
		t.Fatalf("Make(%d, %x, %d, %d bytes): %d bytes, %x, %d", w.alg, w.salt, w.block, len(data), len(tree), root, e)
	}
	again, e := Root(w.alg, w.salt, w.block, data)
	if e != api.OK || !bytes.Equal(again, root) {
		t.Fatalf("Root(%d, %x, %d, %d bytes): %x, %d", w.alg, w.salt, w.block, len(data), again, e)
	}
	return tree, root
}

// notMade checks an error of Make and of Root.
func notMade(t *testing.T, alg int, salt []byte, block int, data []byte, want api.Errno) {
	t.Helper()
	tree, root, e := Make(alg, salt, block, data)
	if e != want || len(tree) != 0 || len(root) != 0 {
		t.Fatalf("Make(%d, %d bytes, %d, %d bytes): %d and %d bytes, %d, not %d", alg, len(salt), block, len(data), len(tree), len(root), e, want)
	}
	root, e = Root(alg, salt, block, data)
	if e != want || len(root) != 0 {
		t.Fatalf("Root(%d, %d bytes, %d, %d bytes): %x, %d, not %d", alg, len(salt), block, len(data), root, e, want)
	}
}

func TestMake(t *testing.T) {
	r := rand.New(rand.NewSource(91))
	for _, k := range kinds() {
		for _, size := range sizes(r, k) {
			data := random(r, size)
			w := plant(k, random(r, r.Intn(api.MaxSalt+1)), data)
			tree, root := isMade(t, w, data)
			total, e := place.Shape{Size: size, Block: k.block, Digest: k.digest}.Total()
			if e != api.OK || len(tree) != total || len(root) != k.digest {
				t.Fatalf("%v, %d: %d and %d bytes, %d", k, size, len(tree), total, len(root))
			}
		}
	}
}

// All sizes of small data, through the first three levels and more.
func TestMakeEachSize(t *testing.T) {
	r := rand.New(rand.NewSource(92))
	all := random(r, 700)
	for size := 1; size <= len(all); size++ {
		isMade(t, plant(kind{1, 32, 64}, []byte("salt"), all[:size]), all[:size])
		isMade(t, plant(kind{2, 64, 128}, []byte("salt"), all[:size]), all[:size])
		isMade(t, plant(kind{1, 32, 128}, nil, all[:size]), all[:size])
	}
}

// The tree of chosen data, by digests that were reckoned apart.
func TestMakeKnown(t *testing.T) {
	data := make([]byte, 300)
	for i := range data {
		data[i] = byte(i)
	}
	sum := func(text []byte) []byte {
		s := sha256.Sum256(append([]byte("salt"), text...))
		return s[:]
	}
	var leaves, pairs []byte
	for _, b := range [][]byte{data[:64], data[64:128], data[128:192], data[192:256], append(bytes.Clone(data[256:]), make([]byte, 20)...)} {
		leaves = append(leaves, sum(b)...)
	}
	leaves = append(leaves, make([]byte, 32)...)
	for _, b := range [][]byte{leaves[:64], leaves[64:128], leaves[128:]} {
		pairs = append(pairs, sum(b)...)
	}
	pairs = append(pairs, make([]byte, 32)...)
	top := append(sum(pairs[:64]), sum(pairs[64:])...)
	tree, root, e := Make(1, []byte("salt"), 64, data)
	if e != api.OK || !bytes.Equal(tree, slices.Concat(top, pairs, leaves)) || !bytes.Equal(root, sum(top)) {
		t.Errorf("%x, %x, %d", tree, root, e)
	}
}

// Of one block of data the tree has no bytes, and the root is that block's
// digest, with the noughts behind it.
func TestOneBlock(t *testing.T) {
	r := rand.New(rand.NewSource(93))
	for _, k := range kinds() {
		for _, size := range []int{1, 2, k.block / 2, k.block - 1, k.block} {
			data := random(r, size)
			for _, salt := range salts(r) {
				tree, root, e := Make(k.alg, salt, k.block, data)
				want := libDigest(k.alg, salt, append(bytes.Clone(data), make([]byte, k.block-size)...))
				if e != api.OK || len(tree) != 0 || !bytes.Equal(root, want) {
					t.Fatalf("%v, %d: %x, %x, %d", k, size, tree, root, e)
				}
			}
		}
		// One byte more has a level above.
		if tree, _, e := Make(k.alg, nil, k.block, make([]byte, k.block+1)); e != api.OK || len(tree) != k.block {
			t.Fatalf("%v: %d bytes, %d", k, len(tree), e)
		}
	}
}

// A known sum: that of 64 noughts.
func TestOneBlockKnown(t *testing.T) {
	root, e := Root(1, nil, 64, []byte{0})
	if want := "f5a5fd42d16a20302798ef6ed309979b43003d2320d9f0e8ea9831a92759fb4b"; e != api.OK || hex.EncodeToString(root) != want {
		t.Errorf("%x, %d", root, e)
	}
}

func TestMakeSalts(t *testing.T) {
	r := rand.New(rand.NewSource(94))
	for _, k := range []kind{{1, 32, 64}, {2, 64, 128}} {
		data := random(r, 1000)
		for n := range 200 {
			salt := random(r, n)
			if n > 64 {
				notMade(t, k.alg, salt, k.block, data, api.ErrBig)
				continue
			}
			isMade(t, plant(k, salt, data), data)
		}
	}
}

func TestMakeGreatData(t *testing.T) {
	r := rand.New(rand.NewSource(95))
	all := random(r, api.MaxDisk+1)
	for _, k := range []kind{{1, 32, 64}, {1, 32, 4096}, {2, 64, 128}, {2, 64, 4096}} {
		for _, size := range []int{api.MaxDisk - 1, api.MaxDisk} {
			isMade(t, plant(k, []byte("salt"), all[:size]), all[:size])
		}
		notMade(t, k.alg, nil, k.block, all, api.ErrBig)
		notMade(t, k.alg, nil, k.block, make([]byte, 2*api.MaxDisk), api.ErrBig)
	}
}

func TestMakeSize(t *testing.T) {
	for _, alg := range []int{1, 2} {
		for _, block := range wrongBlocks(alg) {
			for _, size := range []int{0, 1, 63, 64, 1000, api.MaxDisk} {
				notMade(t, alg, nil, block, make([]byte, size), api.ErrSize)
			}
		}
	}
	for _, k := range kinds() {
		notMade(t, k.alg, nil, k.block, nil, api.ErrSize)
		notMade(t, k.alg, []byte("salt"), k.block, []byte{}, api.ErrSize)
	}
}

func TestMakeErrorsInTheirOrder(t *testing.T) {
	long, big := make([]byte, 65), make([]byte, api.MaxDisk+1)
	for _, block := range []int{64, 63, 0, -1, math.MaxInt} {
		for _, data := range [][]byte{nil, {1}, big} {
			for _, alg := range noAlgs() {
				notMade(t, alg, nil, block, data, api.ErrAlg)
				notMade(t, alg, long, block, data, api.ErrAlg)
			}
			notMade(t, 1, long, block, data, api.ErrBig)
			notMade(t, 2, long, block, data, api.ErrBig)
		}
		notMade(t, 1, nil, block, big, api.ErrBig)
		notMade(t, 2, nil, block, big, api.ErrBig)
	}
}

// Each bit of the data has a say in the root, and so have the salt, the block
// and the algorithm.
func TestRootsAreUnlike(t *testing.T) {
	r := rand.New(rand.NewSource(96))
	data := random(r, 300)
	seen := map[string]bool{}
	add := func(alg int, salt string, block int, data []byte) {
		root, e := Root(alg, []byte(salt), block, data)
		if e != api.OK || seen[string(root)] {
			t.Fatalf("%d, %q, %d, %x: %x, %d", alg, salt, block, data, root, e)
		}
		seen[string(root)] = true
	}
	add(1, "", 64, data)
	add(1, "s", 64, data)
	add(1, "", 128, data)
	add(2, "", 128, data)
	add(2, "s", 128, data)
	for i := range data {
		other := bytes.Clone(data)
		other[i] ^= 1 << (i % 8)
		add(1, "", 64, other)
	}
}

// P9.2

// checked checks what Check answers.
func checked(t *testing.T, alg int, salt []byte, above []byte, at int, below []byte, want bool) {
	t.Helper()
	if got := Check(alg, salt, above, at, below); got != want {
		t.Fatalf("Check(%d, %x, %d bytes, %d, %x) = %t", alg, salt, len(above), at, below, got)
	}
}

// A digest is found where it stands, and nowhere else.
func TestCheck(t *testing.T) {
	r := rand.New(rand.NewSource(97))
	for alg, size := range []int{1: 32, 2: 64} {
		if alg == 0 {
			continue
		}
		for _, salt := range salts(r) {
			for _, n := range []int{0, 1, 64, 100, 4096} {
				below := random(r, n)
				for _, where := range []int{0, 1, size, 100} {
					above := slices.Concat(random(r, where), libDigest(alg, salt, below), random(r, 50))
					for at := -10; at < len(above)+10; at++ {
						checked(t, alg, salt, above, at, below, at == where)
					}
				}
			}
		}
	}
}

// The stretch may end where the block above does, and not behind it.
func TestCheckAtTheEnd(t *testing.T) {
	for alg, size := range []int{1: 32, 2: 64} {
		if alg == 0 {
			continue
		}
		below := []byte("below")
		d := libDigest(alg, nil, below)
		checked(t, alg, nil, d, 0, below, true)
		checked(t, alg, nil, append(make([]byte, 7), d...), 7, below, true)
		for cut := range size {
			checked(t, alg, nil, d[:cut], 0, below, false)
			checked(t, alg, nil, d[cut:], -cut, below, cut == 0)
			checked(t, alg, nil, d[size-cut:], cut-size, below, false)
		}
		checked(t, alg, nil, nil, 0, below, false)
		for _, at := range []int{1, -1, size, math.MaxInt, math.MaxInt - size, math.MaxInt - size + 1, math.MinInt, math.MinInt + 1, 1 << 32, -1 << 32, 1 << 62} {
			checked(t, alg, nil, d, at, below, false)
		}
	}
}

func TestCheckEachBit(t *testing.T) {
	r := rand.New(rand.NewSource(98))
	for _, alg := range []int{1, 2} {
		below := random(r, 64)
		d := libDigest(alg, []byte("salt"), below)
		for bit := range 8 * len(d) {
			d[bit/8] ^= 1 << (bit % 8)
			checked(t, alg, []byte("salt"), d, 0, below, false)
			d[bit/8] ^= 1 << (bit % 8)
		}
		for bit := range 8 * len(below) {
			below[bit/8] ^= 1 << (bit % 8)
			checked(t, alg, []byte("salt"), d, 0, below, false)
			below[bit/8] ^= 1 << (bit % 8)
		}
		checked(t, alg, []byte("salt"), d, 0, below, true)
		checked(t, alg, []byte("Salt"), d, 0, below, false)
		checked(t, alg, nil, d, 0, below, false)
		checked(t, alg, []byte("salt"), d, 0, append(below, 0), false)
		checked(t, 3-alg, []byte("salt"), d, 0, below, false)
	}
}

func TestCheckSaltAndAlg(t *testing.T) {
	below := []byte("below")
	for n := range 200 {
		for _, alg := range []int{1, 2} {
			salt := bytes.Repeat([]byte{byte(n)}, n)
			checked(t, alg, salt, libDigest(alg, salt, below), 0, below, n <= 64)
		}
	}
	for _, alg := range noAlgs() {
		for _, above := range [][]byte{nil, make([]byte, 64), libDigest(1, nil, below), libDigest(2, nil, below)} {
			checked(t, alg, nil, above, 0, below, false)
			checked(t, alg, make([]byte, 65), above, 0, below, false)
			checked(t, alg, nil, above, len(above), nil, false)
		}
	}
}

// P9.3

// climbed checks what Climb answers.
func climbed(t *testing.T, w wood, s place.Shape, i int, blocks [][]byte, root []byte, want api.Errno) {
	t.Helper()
	if e := Climb(w.alg, w.salt, s, i, blocks, root); e != want {
		t.Fatalf("Climb(%d, %x, %v, %d, %d blocks, %x): %d, not %d", w.alg, w.salt, s, i, len(blocks), root, e, want)
	}
}

// planted is a tree over random data, and its shape.
func planted(r *rand.Rand, k kind, size int) (wood, place.Shape) {
	w := plant(k, random(r, r.Intn(api.MaxSalt+1)), random(r, size))
	return w, place.Shape{Size: size, Block: k.block, Digest: k.digest}
}

func TestClimb(t *testing.T) {
	r := rand.New(rand.NewSource(99))
	for _, k := range kinds() {
		for _, size := range sizes(r, k) {
			w, s := planted(r, k, size)
			n := len(w.levels[0])
			for _, i := range []int{0, n - 1, n / 2, r.Intn(n)} {
				climbed(t, w, s, i, w.path(i), w.root(), api.OK)
			}
		}
	}
}

// Each block climbs by its own path, and by no other's number.
func TestClimbEachBlock(t *testing.T) {
	r := rand.New(rand.NewSource(100))
	for _, k := range []kind{{1, 32, 64}, {1, 32, 128}, {2, 64, 128}, {2, 64, 256}} {
		w, s := planted(r, k, 21*k.block+1)
		n := len(w.levels[0])
		for i := range n {
			for j := range n {
				want := api.OK
				if i != j {
					want = api.ErrTree
				}
				climbed(t, w, s, j, w.path(i), w.root(), want)
			}
		}
	}
}

// What Make makes is climbed: the blocks stand where layer 8 says.
func TestClimbWhatMakeMade(t *testing.T) {
	r := rand.New(rand.NewSource(101))
	for _, k := range kinds() {
		data := random(r, 11*k.block+5)
		s := place.Shape{Size: len(data), Block: k.block, Digest: k.digest}
		tree, root, e := Make(k.alg, []byte("salt"), k.block, data)
		if e != api.OK {
			t.Fatal(e)
		}
		for i := range 12 {
			first := make([]byte, k.block)
			copy(first, data[i*k.block:])
			blocks := [][]byte{first}
			path, _ := s.Path(i)
			for _, z := range path[1:] {
				at, e := s.Offset(z)
				if e != api.OK {
					t.Fatal(e)
				}
				blocks = append(blocks, tree[at:at+k.block])
			}
			if e := Climb(k.alg, []byte("salt"), s, i, blocks, root); e != api.OK {
				t.Fatalf("%v, %d: %d", k, i, e)
			}
		}
	}
}

// A bit turned in any block of the path is told: in one below the top, or where
// the top has the digest, by ErrTree; elsewhere in the top by ErrRoot.
func TestClimbTurnedBits(t *testing.T) {
	r := rand.New(rand.NewSource(102))
	for _, k := range []kind{{1, 32, 64}, {1, 32, 128}, {2, 64, 128}, {2, 64, 256}} {
		w, s := planted(r, k, 5*k.block-3)
		arity := k.block / k.digest
		for i := range w.levels[0] {
			top := len(w.levels) - 1
			last := i
			for range top - 1 {
				last /= arity
			}
			from := last % arity * k.digest
			for level := range w.levels {
				for at := range k.block {
					want := api.ErrTree
					if level == top && (at < from || at >= from+k.digest) {
						want = api.ErrRoot
					}
					blocks := w.path(i)
					blocks[level][at] ^= 1 << r.Intn(8)
					climbed(t, w, s, i, blocks, w.root(), want)
				}
			}
		}
	}
}

// Of one block of data the block is the top: there is nothing but the root.
func TestClimbOneBlock(t *testing.T) {
	r := rand.New(rand.NewSource(103))
	for _, k := range kinds() {
		w, s := planted(r, k, k.block)
		climbed(t, w, s, 0, w.path(0), w.root(), api.OK)
		for at := range k.block {
			blocks := w.path(0)
			blocks[0][at] ^= 1
			climbed(t, w, s, 0, blocks, w.root(), api.ErrRoot)
		}
		climbed(t, w, s, 0, nil, w.root(), api.ErrForm)
		climbed(t, w, s, 0, append(w.path(0), make([]byte, k.block)), w.root(), api.ErrForm)
		climbed(t, w, s, 1, w.path(0), w.root(), api.ErrRange)
		climbed(t, w, s, -1, w.path(0), w.root(), api.ErrRange)
	}
}

func TestClimbRoots(t *testing.T) {
	r := rand.New(rand.NewSource(104))
	for _, k := range []kind{{1, 32, 64}, {2, 64, 128}} {
		w, s := planted(r, k, 700)
		root := w.root()
		for bit := range 8 * len(root) {
			other := bytes.Clone(root)
			other[bit/8] ^= 1 << (bit % 8)
			climbed(t, w, s, 3, w.path(3), other, api.ErrRoot)
		}
		for cut := range root {
			climbed(t, w, s, 3, w.path(3), root[:cut], api.ErrRoot)
			climbed(t, w, s, 3, w.path(3), root[cut+1:], api.ErrRoot)
		}
		climbed(t, w, s, 3, w.path(3), append(bytes.Clone(root), 0), api.ErrRoot)
		climbed(t, w, s, 3, w.path(3), append([]byte{0}, root...), api.ErrRoot)
		climbed(t, w, s, 3, w.path(3), slices.Concat(root, root), api.ErrRoot)
		climbed(t, w, s, 3, w.path(3), nil, api.ErrRoot)
		// The salt is in every digest, the root's too.
		w.salt = append(bytes.Clone(w.salt)[:min(len(w.salt), 63)], 1)
		climbed(t, w, s, 3, w.path(3), root, api.ErrTree)
	}
}

// The salt is in the root's digest: of one block it is the only one.
func TestClimbSaltOfTheRoot(t *testing.T) {
	for _, k := range kinds() {
		w := plant(k, []byte("salt"), []byte("data"))
		s := place.Shape{Size: 4, Block: k.block, Digest: k.digest}
		climbed(t, w, s, 0, w.path(0), w.root(), api.OK)
		climbed(t, w, s, 0, w.path(0), libDigest(k.alg, nil, w.path(0)[0]), api.ErrRoot)
		climbed(t, w, s, 0, w.path(0), libDigest(3-k.alg, []byte("salt"), w.path(0)[0]), api.ErrRoot)
	}
}

// The noughts of a last block aren't asked about but by the digests.
func TestClimbIsOfWholeBlocks(t *testing.T) {
	k := kind{1, 32, 64}
	full := plant(k, nil, bytes.Repeat([]byte{5}, 5*64))
	s := place.Shape{Size: 4*64 + 1, Block: 64, Digest: 32}
	climbed(t, full, s, 4, full.path(4), full.root(), api.OK)
}

func TestClimbForm(t *testing.T) {
	r := rand.New(rand.NewSource(105))
	for _, k := range []kind{{1, 32, 64}, {1, 32, 4096}, {2, 64, 128}, {2, 64, 1024}} {
		w, s := planted(r, k, 9*k.block)
		for i := range 9 {
			path := w.path(i)
			for n := range len(path) {
				climbed(t, w, s, i, path[:n], w.root(), api.ErrForm)
				climbed(t, w, s, i, path[n+1:], w.root(), api.ErrForm)
				climbed(t, w, s, i, slices.Insert(w.path(i), n, path[n]), w.root(), api.ErrForm)
				for _, size := range []int{0, 1, k.digest, k.block - 1, k.block + 1, 2 * k.block} {
					other := w.path(i)
					other[n] = append(other[n], make([]byte, k.block)...)[:size]
					climbed(t, w, s, i, other, w.root(), api.ErrForm)
				}
				other := w.path(i)
				other[n] = nil
				climbed(t, w, s, i, other, w.root(), api.ErrForm)
			}
			climbed(t, w, s, i, append(w.path(i), path[len(path)-1]), w.root(), api.ErrForm)
		}
	}
}

func TestClimbRange(t *testing.T) {
	r := rand.New(rand.NewSource(106))
	for _, k := range []kind{{1, 32, 64}, {2, 64, 4096}} {
		w, s := planted(r, k, 9*k.block)
		for _, i := range []int{9, 10, 16, -1, -9, 1 << 32, 1<<32 + 3, math.MaxInt, math.MinInt, math.MinInt + 3} {
			for _, blocks := range [][][]byte{nil, w.path(0), w.path(8), {{1}}} {
				climbed(t, w, s, i, blocks, w.root(), api.ErrRange)
				climbed(t, w, s, i, blocks, nil, api.ErrRange)
			}
		}
	}
}

func TestClimbSize(t *testing.T) {
	r := rand.New(rand.NewSource(107))
	for _, k := range []kind{{1, 32, 128}, {2, 64, 128}} {
		w, right := planted(r, k, 1000)
		var wrong []place.Shape
		for _, digest := range []int{0, 1, -1, 31, 33, 48, 63, 65, 128, -32, -64, 96 - k.digest, 1<<32 + k.digest, math.MaxInt, math.MinInt} {
			wrong = append(wrong, place.Shape{Size: right.Size, Block: right.Block, Digest: digest})
		}
		for _, size := range []int{0, -1, -1000, api.MaxSize + 1, math.MaxInt, math.MinInt} {
			wrong = append(wrong, place.Shape{Size: size, Block: right.Block, Digest: right.Digest})
		}
		for _, block := range wrongBlocks(k.alg) {
			wrong = append(wrong, place.Shape{Size: right.Size, Block: block, Digest: right.Digest})
		}
		wrong = append(wrong, place.Shape{})
		for _, s := range wrong {
			for _, i := range []int{0, 3, -1, 1000, math.MaxInt, math.MinInt} {
				for _, blocks := range [][][]byte{nil, w.path(3)} {
					climbed(t, w, s, i, blocks, w.root(), api.ErrSize)
				}
			}
		}
		climbed(t, w, right, 3, w.path(3), w.root(), api.OK)
	}
}

func TestClimbErrorsInTheirOrder(t *testing.T) {
	r := rand.New(rand.NewSource(108))
	w, s := planted(r, kind{1, 32, 64}, 1000)
	spoilt := w.path(3)
	spoilt[1][0] ^= 1
	spoilt[1][32] ^= 1
	cut := append(w.path(3)[:4:4], w.path(3)[4][:63])
	cut[0][0] ^= 1
	for _, shape := range []place.Shape{s, {}, {Size: 1000, Block: 128, Digest: 64}} {
		for _, i := range []int{3, -1} {
			for _, blocks := range [][][]byte{nil, w.path(3), spoilt} {
				for _, alg := range noAlgs() {
					other := w
					other.alg = alg
					climbed(t, other, shape, i, blocks, w.root(), api.ErrAlg)
					other.salt = make([]byte, 65)
					climbed(t, other, shape, i, blocks, w.root(), api.ErrAlg)
				}
				for n := 65; n < 200; n++ {
					other := w
					other.salt = make([]byte, n)
					climbed(t, other, shape, i, blocks, w.root(), api.ErrBig)
				}
			}
		}
	}
	climbed(t, w, place.Shape{}, -1, nil, nil, api.ErrSize)
	climbed(t, w, s, -1, nil, nil, api.ErrRange)
	climbed(t, w, s, 3, cut, nil, api.ErrForm)
	climbed(t, w, s, 3, spoilt, nil, api.ErrTree)
	climbed(t, w, s, 3, w.path(3), nil, api.ErrRoot)
	climbed(t, w, s, 3, w.path(3), w.root(), api.OK)
}

// greatPath are blocks that climb in a shape too great to be made: each is
// random but for the digest of the one below.
func greatPath(t *testing.T, r *rand.Rand, alg int, salt []byte, s place.Shape, i int) (blocks [][]byte, root []byte) {
	t.Helper()
	count, arity := (s.Size-1)/s.Block+1, s.Block/s.Digest
	b := random(r, s.Block)
	for blocks = [][]byte{b}; count > 1; count = (count-1)/arity + 1 {
		up := random(r, s.Block)
		copy(up[i%arity*s.Digest:], libDigest(alg, salt, b))
		b, i = up, i/arity
		blocks = append(blocks, b)
	}
	return blocks, libDigest(alg, salt, b)
}

func TestClimbGreatShapes(t *testing.T) {
	r := rand.New(rand.NewSource(109))
	for _, k := range kinds() {
		for _, size := range []int{api.MaxDisk + 1, 1<<32 + 1, api.MaxSize - 1, api.MaxSize} {
			s := place.Shape{Size: size, Block: k.block, Digest: k.digest}
			w := wood{kind: k, salt: random(r, 64)}
			n := (size-1)/k.block + 1
			for _, i := range []int{0, n - 1, n / 2, r.Intn(n)} {
				blocks, root := greatPath(t, r, k.alg, w.salt, s, i)
				climbed(t, w, s, i, blocks, root, api.OK)
				climbed(t, w, s, (i+1)%n, blocks, root, api.ErrTree)
				blocks[0][0] ^= 1
				climbed(t, w, s, i, blocks, root, api.ErrTree)
			}
			climbed(t, w, s, n, nil, nil, api.ErrRange)
		}
	}
}

// P9.4

// differed checks the pair that Differ finds.
func differed(t *testing.T, a [][]byte, b [][]byte, x []byte, y []byte) {
	t.Helper()
	gotX, gotY, found := Differ(a, b)
	if !found || !bytes.Equal(gotX, x) || !bytes.Equal(gotY, y) {
		t.Fatalf("Differ(%x, %x) = %x, %x, %t", a, b, gotX, gotY, found)
	}
}

// alike checks that Differ finds nothing.
func alike(t *testing.T, a [][]byte, b [][]byte) {
	t.Helper()
	x, y, found := Differ(a, b)
	if found || len(x) != 0 || len(y) != 0 {
		t.Fatalf("Differ(%x, %x) = %x, %x, %t", a, b, x, y, found)
	}
}

// list is one of blocks of a letter each.
func list(letters string) [][]byte {
	var all [][]byte
	for i := range len(letters) {
		all = append(all, []byte{letters[i]})
	}
	return all
}

func TestDiffer(t *testing.T) {
	for _, c := range []struct{ a, b, x, y string }{
		{"a", "b", "a", "b"},
		{"abc", "abd", "c", "d"},
		{"abc", "axc", "b", "x"},
		{"abc", "xbc", "a", "x"},
		{"abc", "xyc", "b", "y"},
		{"abc", "xyz", "c", "z"},
		{"abc", "xbz", "c", "z"},
		// As far as both go, the last ones first.
		{"abc", "bd", "c", "d"},
		{"abc", "xc", "b", "x"},
		{"bc", "axc", "b", "x"},
		{"abcd", "xcd", "b", "x"},
		{"ab", "a", "b", "a"},
		{"a", "ab", "a", "b"},
	} {
		differed(t, list(c.a), list(c.b), []byte(c.x), []byte(c.y))
		differed(t, list(c.b), list(c.a), []byte(c.y), []byte(c.x))
	}
	for _, c := range []struct{ a, b string }{{"", ""}, {"", "a"}, {"", "abc"}, {"a", "a"}, {"abc", "abc"}, {"abc", "bc"}, {"abc", "c"}, {"xyzabc", "abc"}, {"aaa", "aa"}} {
		alike(t, list(c.a), list(c.b))
		alike(t, list(c.b), list(c.a))
	}
}

func TestDifferOfBlocks(t *testing.T) {
	// Nil and empty blocks are one; those of unlike lengths are unlike.
	alike(t, nil, nil)
	alike(t, nil, [][]byte{})
	alike(t, [][]byte{nil}, [][]byte{{}})
	alike(t, [][]byte{nil, {1}}, [][]byte{{}, {1}})
	differed(t, [][]byte{nil}, [][]byte{{0}}, nil, []byte{0})
	differed(t, [][]byte{{0}}, [][]byte{{}}, []byte{0}, nil)
	differed(t, [][]byte{{1}, {1, 2}}, [][]byte{{1}, {1, 2, 0}}, []byte{1, 2}, []byte{1, 2, 0})
	differed(t, [][]byte{{1, 2}, {3}}, [][]byte{{1}, {2}, {3}}, []byte{1, 2}, []byte{2})
}

func TestDifferRandom(t *testing.T) {
	r := rand.New(rand.NewSource(110))
	for range 5000 {
		a, b := make([][]byte, r.Intn(6)), make([][]byte, r.Intn(6))
		for _, l := range [][][]byte{a, b} {
			for i := range l {
				l[i] = bytes.Repeat([]byte{byte(r.Intn(2))}, r.Intn(3))
			}
		}
		back, other := slices.Clone(a), slices.Clone(b)
		slices.Reverse(back)
		slices.Reverse(other)
		n := min(len(a), len(b))
		at := -1
		for k := range n {
			if string(back[k]) != string(other[k]) {
				at = k
				break
			}
		}
		if at < 0 {
			alike(t, a, b)
		} else {
			differed(t, a, b, back[at], other[at])
		}
	}
}

// Of two paths that climb to one root there is no pair, as no two unlike texts
// with one digest are known; one that differs is told where it leaves the other.
func TestDifferOfPaths(t *testing.T) {
	r := rand.New(rand.NewSource(111))
	k := kind{1, 32, 64}
	w, s := planted(r, k, 1000)
	for i := range w.levels[0] {
		climbed(t, w, s, i, w.path(i), w.root(), api.OK)
		alike(t, w.path(i), w.path(i))
		for level := range w.levels {
			other := w.path(i)
			for l := range level + 1 {
				other[l][5] ^= 1
			}
			differed(t, w.path(i), other, w.path(i)[level], other[level])
		}
	}
}

// The rule of memory

const room = 600

// roomy is b with spare room that is filled.
func roomy(b []byte) []byte {
	return append(bytes.Clone(b), bytes.Repeat([]byte{77}, room)...)[:len(b)]
}

// intact says whether what roomy made is as it was, its room too.
func intact(b []byte, want []byte) bool {
	return bytes.Equal(b, want) && bytes.Equal(b[len(b):len(b)+room], bytes.Repeat([]byte{77}, room))
}

// spoil writes over bytes, and their spare room.
func spoil(b []byte) {
	b = b[:cap(b)]
	for i := range b {
		b[i] = 0xde
	}
}

func TestArgumentsAreLeftAndNotKept(t *testing.T) {
	r := rand.New(rand.NewSource(112))
	for _, k := range kinds() {
		// The last size ends within a block, whose noughts would have room.
		for _, size := range []int{1, k.block, 2 * k.block, 3*k.block - 1} {
			raw := random(r, size)
			w := plant(k, []byte("salt"), raw)
			s := place.Shape{Size: size, Block: k.block, Digest: k.digest}
			salt, data, top := roomy(w.salt), roomy(raw), roomy(w.root())
			tree, root, _ := Make(k.alg, salt, k.block, data)
			alone, _ := Root(k.alg, salt, k.block, data)
			var blocks [][]byte
			for _, b := range w.path(0) {
				blocks = append(blocks, roomy(b))
			}
			if e := Climb(k.alg, salt, s, 0, blocks, top); e != api.OK {
				t.Fatal(e)
			}
			Check(k.alg, salt, blocks[0], 0, data)
			for i, b := range w.path(0) {
				if !intact(blocks[i], b) {
					t.Fatalf("%v, %d: block %d was changed", k, size, i)
				}
			}
			if !intact(salt, w.salt) || !intact(data, raw) || !intact(top, w.root()) {
				t.Fatalf("%v, %d: an argument was changed", k, size)
			}
			spoil(salt)
			spoil(data)
			if !bytes.Equal(tree, w.bytes()) || !bytes.Equal(root, w.root()) || !bytes.Equal(alone, w.root()) {
				t.Fatalf("%v, %d: an answer has an argument's memory", k, size)
			}
		}
	}
}

// The lists of blocks are left as they are, their spare room too.
func TestListsOfBlocksAreLeft(t *testing.T) {
	r := rand.New(rand.NewSource(113))
	w, s := planted(r, kind{1, 32, 64}, 1000)
	blocks := append(w.path(3), []byte("more"))
	climbed(t, w, s, 3, blocks[:5], w.root(), api.OK)
	other := append(w.path(4), []byte("else"))
	Differ(blocks[:5], other[:5])
	for i, b := range append(w.path(3), []byte("more")) {
		if !bytes.Equal(blocks[i], b) {
			t.Errorf("block %d was changed", i)
		}
	}
	for i, b := range append(w.path(4), []byte("else")) {
		if !bytes.Equal(other[i], b) {
			t.Errorf("block %d was changed", i)
		}
	}
}

// The pair that differs is new memory, spare room too.
func TestPairIsNew(t *testing.T) {
	for _, c := range []struct{ x, y string }{{"one", "two"}, {"", "two"}, {"one", ""}} {
		x, y := roomy([]byte(c.x)), roomy([]byte(c.y))
		a, b := [][]byte{x}, [][]byte{y}
		gotX, gotY, found := Differ(a, b)
		spoil(gotX)
		if !found || string(gotY) != c.y {
			t.Fatalf("%v: %x, %x, %t", c, gotX, gotY, found)
		}
		spoil(gotY)
		if !intact(x, []byte(c.x)) || !intact(y, []byte(c.y)) {
			t.Fatalf("%v: an answer has an argument's memory", c)
		}
		again, more, _ := Differ(a, b)
		spoil(x)
		spoil(y)
		if string(again) != c.x || string(more) != c.y {
			t.Fatalf("%v: an answer has an argument's memory: %x, %x", c, again, more)
		}
	}
}

// Answers written over, their spare room too, change no other answer.
func TestAnswersAreNew(t *testing.T) {
	r := rand.New(rand.NewSource(114))
	for _, k := range kinds() {
		for _, size := range []int{1, k.block, 2 * k.block, 20*k.block - 1} {
			data := random(r, size)
			w := plant(k, []byte("salt"), data)
			for range 2 {
				tree, root := isMade(t, w, data)
				spoil(tree)
				if !bytes.Equal(root, w.root()) {
					t.Fatalf("%v, %d: the root is in the tree's memory", k, size)
				}
				tree, root = isMade(t, w, data)
				spoil(root)
				if !bytes.Equal(tree, w.bytes()) {
					t.Fatalf("%v, %d: the tree is in the root's memory", k, size)
				}
				alone, _ := Root(k.alg, w.salt, k.block, data)
				spoil(alone)
			}
		}
	}
}
