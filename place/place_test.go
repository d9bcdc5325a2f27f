package place

import (
	"math"
	"math/cmplx"
	"math/rand"
	"slices"
	"testing"

	"sallyport/api"
)

// rightKinds are the shapes of one byte that are right: all blocks with all
// digests.
func rightKinds() []Shape {
	return []Shape{
		{1, 64, 32}, {1, 128, 32}, {1, 256, 32}, {1, 512, 32}, {1, 1024, 32}, {1, 2048, 32}, {1, 4096, 32},
		{1, 128, 64}, {1, 256, 64}, {1, 512, 64}, {1, 1024, 64}, {1, 2048, 64}, {1, 4096, 64},
	}
}

// sized is a shape with another size.
func sized(s Shape, size int) Shape { return Shape{size, s.Block, s.Digest} }

// someSizes are sizes about the powers of a block and an arity, and others.
func someSizes(r *rand.Rand, s Shape) []int {
	sizes := []int{1, 2, s.Block - 1, s.Block, s.Block + 1, api.MaxSize, api.MaxSize - 1, api.MaxSize - s.Block, api.MaxSize - s.Block + 1}
	for edge := s.Block; edge < api.MaxSize; edge *= s.Block / s.Digest {
		sizes = append(sizes, edge-1, edge, edge+1, edge+s.Block)
	}
	for range 20 {
		sizes = append(sizes, 1+r.Intn(1<<(1+r.Intn(40))))
	}
	return slices.DeleteFunc(sizes, func(n int) bool { return n > api.MaxSize })
}

// smallShapes are shapes whose blocks can all be gone through.
func smallShapes(r *rand.Rand) []Shape {
	var all []Shape
	for _, s := range rightKinds() {
		for _, blocks := range []int{1, 2, 3, 4, 5, 7, 8, 9, 15, 16, 17, 31, 33, 63, 64, 65, 127, 128, 129, 200, 1 + r.Intn(900)} {
			all = append(all, sized(s, blocks*s.Block), sized(s, blocks*s.Block-s.Block+1), sized(s, blocks*s.Block-1))
		}
	}
	return all
}

// levels are a shape's counts, reckoned by taking off what a block holds till
// nothing is left: of sizes up to some millions.
func levels(s Shape) []int {
	count := func(things, hold int) int {
		n := 0
		for things > 0 {
			things -= hold
			n++
		}
		return n
	}
	all := []int{count(s.Size, s.Block)}
	for all[len(all)-1] != 1 {
		all = append(all, count(all[len(all)-1], s.Block/s.Digest))
	}
	return all
}

func at(number int, level int) complex128 { return complex(float64(number), float64(level)) }

// same says whether two complex numbers are alike in each bit: no part of an
// answer is a negative nought.
func same(a complex128, b complex128) bool {
	return math.Float64bits(real(a)) == math.Float64bits(real(b)) && math.Float64bits(imag(a)) == math.Float64bits(imag(b))
}

func countsOf(t *testing.T, s Shape) []int {
	t.Helper()
	c, e := s.Counts()
	if e != api.OK || len(c) == 0 {
		t.Fatalf("%v.Counts() = %v, %d", s, c, e)
	}
	return c
}

func isAbove(t *testing.T, s Shape, z complex128, up complex128, byteThere int) {
	t.Helper()
	if u, n, e := s.Above(z); e != api.OK || !same(u, up) || n != byteThere {
		t.Fatalf("%v.Above(%v) = %v, %d, %d, not %v, %d", s, z, u, n, e, up, byteThere)
	}
}

func noAbove(t *testing.T, s Shape, z complex128, want api.Errno) {
	t.Helper()
	if u, n, e := s.Above(z); e != want || !same(u, 0) || n != 0 {
		t.Fatalf("%v.Above(%v) = %v, %d, %d, not %d", s, z, u, n, e, want)
	}
}

func isOffset(t *testing.T, s Shape, z complex128, want int) {
	t.Helper()
	if n, e := s.Offset(z); e != api.OK || n != want {
		t.Fatalf("%v.Offset(%v) = %d, %d, not %d", s, z, n, e, want)
	}
}

func noOffset(t *testing.T, s Shape, z complex128, want api.Errno) {
	t.Helper()
	if n, e := s.Offset(z); e != want || n != 0 {
		t.Fatalf("%v.Offset(%v) = %d, %d, not %d", s, z, n, e, want)
	}
}

func isPath(t *testing.T, s Shape, i int, want []complex128) {
	t.Helper()
	if p, e := s.Path(i); e != api.OK || !slices.EqualFunc(p, want, same) {
		t.Fatalf("%v.Path(%d) = %v, %d, not %v", s, i, p, e, want)
	}
}

func noPath(t *testing.T, s Shape, i int, want api.Errno) {
	t.Helper()
	if p, e := s.Path(i); e != want || len(p) != 0 {
		t.Fatalf("%v.Path(%d) = %v, %d, not %d", s, i, p, e, want)
	}
}

func TestExamples(t *testing.T) {
	s := Shape{1000, 64, 32}
	if c := countsOf(t, s); !slices.Equal(c, []int{16, 8, 4, 2, 1}) {
		t.Error(c)
	}
	if n, e := s.Total(); n != 960 || e != api.OK {
		t.Error(n, e)
	}
	isAbove(t, s, 5, 2+1i, 32)
	isPath(t, s, 5, []complex128{5, 2 + 1i, 1 + 2i, 3i, 4i})
	isOffset(t, s, 4i, 0)
	isOffset(t, s, 3i, 64)
}

// P8.1

// isWrong checks that a shape isn't right, and that all calls say so, whatever
// else is wrong.
func isWrong(t *testing.T, s Shape) {
	t.Helper()
	if s.Right() {
		t.Fatalf("%v is right", s)
	}
	if c, e := s.Counts(); e != api.ErrSize || len(c) != 0 {
		t.Fatalf("%v.Counts() = %v, %d", s, c, e)
	}
	if n, e := s.Total(); e != api.ErrSize || n != 0 {
		t.Fatalf("%v.Total() = %d, %d", s, n, e)
	}
	for _, z := range []complex128{0, 1, 1i, -1, 0.5, 1e300, cmplx.NaN(), cmplx.Inf()} {
		noAbove(t, s, z, api.ErrSize)
		noOffset(t, s, z, api.ErrSize)
	}
	for _, i := range []int{0, 1, -1, math.MaxInt, math.MinInt} {
		noPath(t, s, i, api.ErrSize)
	}
}

func isRight(t *testing.T, s Shape) {
	t.Helper()
	if !s.Right() {
		t.Fatalf("%v isn't right", s)
	}
	countsOf(t, s)
	if n, e := s.Total(); e != api.OK || n < 0 {
		t.Fatalf("%v.Total() = %d, %d", s, n, e)
	}
}

func TestSizes(t *testing.T) {
	for _, s := range rightKinds() {
		for _, size := range []int{1, 2, 3, 1000, 1 << 20, 1<<31 - 1, 1 << 31, 1 << 32, 1<<32 + 1, 1<<40 - 1, 1 << 40} {
			isRight(t, sized(s, size))
		}
		for _, size := range []int{0, -1, -2, -1000, -1 << 31, -1 << 32, -1 << 40, 1<<40 + 1, 1<<40 + 4096, 1 << 41, 1 << 52, 1 << 53, 1<<53 + 1,
			1 << 62, math.MaxInt, math.MaxInt - 1, math.MinInt, math.MinInt + 1} {
			isWrong(t, sized(s, size))
		}
	}
}

func TestBlocks(t *testing.T) {
	blocks := []int{math.MaxInt, math.MinInt, math.MinInt + 1, 1 << 13, 1 << 16, 1 << 31, 1 << 32, 1<<32 + 64, 1<<32 + 4096, 1 << 62, -1 << 32, -1 << 12, 1<<32 - 64}
	for b := -200; b < 8300; b++ {
		blocks = append(blocks, b)
	}
	for _, b := range blocks {
		for _, digest := range []int{32, 64} {
			s := Shape{1000, b, digest}
			if slices.Contains(rightKinds(), sized(s, 1)) {
				isRight(t, s)
			} else {
				isWrong(t, s)
			}
		}
	}
}

func TestDigests(t *testing.T) {
	digests := []int{math.MaxInt, math.MinInt, math.MinInt + 32, 1<<32 + 32, 1<<32 + 64, -1<<32 + 32, 1<<63 - 32, 1 << 62, 2048, 4096}
	for d := -300; d < 300; d++ {
		digests = append(digests, d)
	}
	for _, d := range digests {
		if d == 32 || d == 64 {
			continue
		}
		for _, block := range []int{0, 1, 2, 16, 32, 64, 128, 256, 4096, 2 * d, -64} {
			isWrong(t, Shape{1000, block, d})
		}
	}
	isWrong(t, Shape{})
}

func TestCounts(t *testing.T) {
	r := rand.New(rand.NewSource(81))
	for _, s := range smallShapes(r) {
		if c := countsOf(t, s); !slices.Equal(c, levels(s)) {
			t.Fatalf("%v: %v, not %v", s, c, levels(s))
		}
	}
}

// Of sizes that are too great to be gone through: each level has room for the
// one below it, and less by a block would have none; it ends at the first one
// of one block.
func TestCountsOfAnySize(t *testing.T) {
	r := rand.New(rand.NewSource(82))
	for _, kind := range rightKinds() {
		for _, size := range someSizes(r, kind) {
			s := sized(kind, size)
			below, hold := s.Size, s.Block
			c := countsOf(t, s)
			for i, n := range c {
				if n < 1 || n*hold < below || (n-1)*hold >= below || (n == 1) != (i == len(c)-1) {
					t.Fatalf("%v: %v", s, c)
				}
				below, hold = n, s.Block/s.Digest
			}
		}
	}
}

func TestCountsKnown(t *testing.T) {
	for _, x := range []struct {
		s    Shape
		want []int
	}{
		{Shape{1, 64, 32}, []int{1}},
		{Shape{64, 64, 32}, []int{1}},
		{Shape{65, 64, 32}, []int{2, 1}},
		{Shape{128, 64, 32}, []int{2, 1}},
		{Shape{129, 64, 32}, []int{3, 2, 1}},
		{Shape{128, 128, 64}, []int{1}},
		{Shape{4097, 4096, 64}, []int{2, 1}},
		{Shape{64*4096 + 1, 4096, 64}, []int{65, 2, 1}},
		{Shape{128 * 4096, 4096, 32}, []int{128, 1}},
		{Shape{128*4096 + 1, 4096, 32}, []int{129, 2, 1}},
		{Shape{1 << 40, 4096, 32}, []int{1 << 28, 1 << 21, 1 << 14, 1 << 7, 1}},
		{Shape{1 << 40, 4096, 64}, []int{1 << 28, 1 << 22, 1 << 16, 1 << 10, 1 << 4, 1}},
		{Shape{1<<40 - 4096, 4096, 32}, []int{1<<28 - 1, 1 << 21, 1 << 14, 1 << 7, 1}},
	} {
		if c := countsOf(t, x.s); !slices.Equal(c, x.want) {
			t.Errorf("%v: %v, not %v", x.s, c, x.want)
		}
	}
	// The shape with the most levels.
	most := countsOf(t, Shape{1 << 40, 64, 32})
	for i, n := range most {
		if n != 1<<(34-i) {
			t.Fatal(most)
		}
	}
	if len(most) != 35 {
		t.Error(most)
	}
}

func TestTotal(t *testing.T) {
	r := rand.New(rand.NewSource(83))
	for _, s := range smallShapes(r) {
		want := 0
		for _, n := range levels(s)[1:] {
			want += n * s.Block
		}
		if n, e := s.Total(); e != api.OK || n != want {
			t.Fatalf("%v.Total() = %d, %d, not %d", s, n, e, want)
		}
	}
	for _, x := range []struct {
		s    Shape
		want int
	}{
		{Shape{1, 64, 32}, 0}, {Shape{64, 64, 32}, 0}, {Shape{65, 64, 32}, 64}, {Shape{4096, 4096, 64}, 0}, {Shape{4097, 4096, 64}, 4096},
		{Shape{1 << 40, 64, 32}, (1<<34 - 1) * 64}, {Shape{1 << 40, 4096, 32}, (1<<21 + 1<<14 + 1<<7 + 1) * 4096},
		{Shape{1 << 40, 128, 64}, (1<<33 - 1) * 128},
	} {
		if n, e := x.s.Total(); e != api.OK || n != x.want {
			t.Errorf("%v.Total() = %d, %d, not %d", x.s, n, e, x.want)
		}
	}
}

// P8.2

// All blocks of a level below the top, dealt out to those above in order.
func TestAbove(t *testing.T) {
	r := rand.New(rand.NewSource(84))
	for _, s := range smallShapes(r) {
		c := levels(s)
		for level := range len(c) - 1 {
			up, byteThere := 0, 0
			for i := range c[level] {
				isAbove(t, s, at(i, level), at(up, level+1), byteThere)
				byteThere += s.Digest
				if byteThere == s.Block {
					up, byteThere = up+1, 0
				}
			}
		}
		noAbove(t, s, at(0, len(c)-1), api.ErrRoot)
	}
}

func TestAboveOfGreatShapes(t *testing.T) {
	r := rand.New(rand.NewSource(85))
	for _, kind := range rightKinds() {
		for _, size := range someSizes(r, kind) {
			s := sized(kind, size)
			c := countsOf(t, s)
			arity := s.Block / s.Digest
			for level := range len(c) - 1 {
				last := c[level] - 1
				isAbove(t, s, at(last, level), at(c[level+1]-1, level+1), last%arity*s.Digest)
				for range 3 {
					i := r.Intn(c[level])
					isAbove(t, s, at(i, level), at(i/arity, level+1), i%arity*s.Digest)
				}
			}
			noAbove(t, s, at(0, len(c)-1), api.ErrRoot)
		}
	}
}

// The tree's bytes are laid out from the top on, block behind block.
func TestOffset(t *testing.T) {
	r := rand.New(rand.NewSource(86))
	for _, s := range smallShapes(r) {
		c := levels(s)
		begin := 0
		for level := len(c) - 1; level > 0; level-- {
			for i := range c[level] {
				isOffset(t, s, at(i, level), begin)
				begin += s.Block
			}
		}
		if n, e := s.Total(); e != api.OK || n != begin {
			t.Fatalf("%v.Total() = %d, %d, not %d", s, n, e, begin)
		}
		for i := range c[0] {
			noOffset(t, s, at(i, 0), api.ErrRange)
		}
	}
}

func TestOffsetOfGreatShapes(t *testing.T) {
	r := rand.New(rand.NewSource(87))
	for _, kind := range rightKinds() {
		for _, size := range someSizes(r, kind) {
			s := sized(kind, size)
			c := countsOf(t, s)
			begin := 0
			for level := len(c) - 1; level > 0; level-- {
				i := r.Intn(c[level])
				isOffset(t, s, at(0, level), begin)
				isOffset(t, s, at(i, level), begin+i*s.Block)
				begin += c[level] * s.Block
				isOffset(t, s, at(c[level]-1, level), begin-s.Block)
			}
			if n, e := s.Total(); e != api.OK || n != begin {
				t.Fatalf("%v.Total() = %d, %d, not %d", s, n, e, begin)
			}
			noOffset(t, s, 0, api.ErrRange)
			noOffset(t, s, at(c[0]-1, 0), api.ErrRange)
		}
	}
}

// nowhere are parts of no place, whatever the shape.
func nowhere() []float64 {
	return []float64{math.NaN(), math.Inf(1), math.Inf(-1), -1, -2, -0.5, -math.SmallestNonzeroFloat64, math.SmallestNonzeroFloat64, 0.5, 1e-300,
		math.Nextafter(1, 0), math.Nextafter(1, 2), 1.5, 1e300, -1e300, math.MaxFloat64, -math.MaxFloat64,
		1 << 40, 1 << 53, 1 << 62, 1 << 63, 1 << 64, 1<<64 + 1<<20, -1 << 63, -1 << 64, 1e19, -1e19}
}

func noPlace(t *testing.T, s Shape, z complex128) {
	t.Helper()
	noAbove(t, s, z, api.ErrRange)
	noOffset(t, s, z, api.ErrRange)
}

func TestNoPlace(t *testing.T) {
	shapes := []Shape{{1, 64, 32}, {64, 64, 32}, {65, 64, 32}, {1000, 64, 32}, {1 << 20, 128, 64}, {1 << 40, 64, 32}, {1 << 40, 4096, 64}}
	for _, s := range shapes {
		c := countsOf(t, s)
		parts := append(nowhere(), 0, 1, 2)
		for _, x := range nowhere() {
			for _, y := range parts {
				noPlace(t, s, complex(x, y))
				noPlace(t, s, complex(y, x))
			}
		}
		for level, n := range c {
			y := float64(level)
			for _, x := range []float64{float64(n), float64(n) + 1, float64(n) + 0.5, float64(n) - 0.5, float64(n-1) + 0.25, float64(n) * 2, -float64(n),
				math.Nextafter(float64(n), 0), 1<<32 + float64(n) + 1<<34, -1} {
				noPlace(t, s, complex(x, y))
			}
			for _, part := range []float64{y + 0.5, y - 0.5, math.Nextafter(y, 100), -y - 1} {
				noPlace(t, s, complex(0, part))
			}
		}
		for _, level := range []int{len(c), len(c) + 1, len(c) + 100, 1 << 32, 1<<32 + 1} {
			noPlace(t, s, at(0, level))
			noPlace(t, s, at(1, level))
		}
	}
}

// What has a block at one level has none at another.
func TestPlacesEndByLevel(t *testing.T) {
	s := Shape{1000, 64, 32}
	for level, n := range []int{16, 8, 4, 2, 1} {
		for i := range 20 {
			z := at(i, level)
			if i >= n {
				noPlace(t, s, z)
			} else if level < 4 {
				isAbove(t, s, z, at(i/2, level+1), i%2*32)
			} else {
				noAbove(t, s, z, api.ErrRoot)
			}
		}
	}
}

// A negative nought is nought.
func TestNegativeNought(t *testing.T) {
	s, nought := Shape{1000, 64, 32}, math.Copysign(0, -1)
	isAbove(t, s, complex(nought, 0), 1i, 0)
	isAbove(t, s, complex(0, nought), 1i, 0)
	isAbove(t, s, complex(nought, nought), 1i, 0)
	isAbove(t, s, complex(5, nought), 2+1i, 32)
	isAbove(t, s, complex(nought, 2), 3i, 0)
	noAbove(t, s, complex(nought, 4), api.ErrRoot)
	isOffset(t, s, complex(nought, 4), 0)
	isOffset(t, s, complex(nought, 3), 64)
	noOffset(t, s, complex(nought, nought), api.ErrRange)
	noOffset(t, s, complex(1, nought), api.ErrRange)
}

// Of one block of data the place is the top's, and no block is in the tree.
func TestTopOfLevelNought(t *testing.T) {
	for _, kind := range rightKinds() {
		for _, size := range []int{1, kind.Block - 1, kind.Block} {
			s := sized(kind, size)
			noAbove(t, s, 0, api.ErrRoot)
			noAbove(t, s, 1i, api.ErrRange)
			noAbove(t, s, 1, api.ErrRange)
			noOffset(t, s, 0, api.ErrRange)
			noOffset(t, s, 1i, api.ErrRange)
			isPath(t, s, 0, []complex128{0})
			noPath(t, s, 1, api.ErrRange)
		}
	}
}

// P8.3

func TestPath(t *testing.T) {
	r := rand.New(rand.NewSource(88))
	for _, s := range smallShapes(r) {
		c := levels(s)
		for i := range c[0] {
			var want []complex128
			for level, n := 0, i; level < len(c); level++ {
				want = append(want, at(n, level))
				n /= s.Block / s.Digest
			}
			isPath(t, s, i, want)
		}
		for _, i := range []int{c[0], c[0] + 1, -1} {
			noPath(t, s, i, api.ErrRange)
		}
	}
}

// Each place of a path is the one above the place ahead of it, and the last is
// the top's.
func TestPathClimbs(t *testing.T) {
	r := rand.New(rand.NewSource(89))
	for _, kind := range rightKinds() {
		for _, size := range someSizes(r, kind) {
			s := sized(kind, size)
			c := countsOf(t, s)
			for _, i := range []int{0, c[0] - 1, r.Intn(c[0]), c[0] / 2} {
				p, e := s.Path(i)
				if e != api.OK || len(p) != len(c) || !same(p[0], at(i, 0)) || !same(p[len(p)-1], at(0, len(c)-1)) {
					t.Fatalf("%v.Path(%d) = %v, %d", s, i, p, e)
				}
				for k := range len(p) - 1 {
					if u, _, e := s.Above(p[k]); e != api.OK || !same(u, p[k+1]) {
						t.Fatalf("%v.Path(%d) = %v: above %v is %v, %d", s, i, p, p[k], u, e)
					}
				}
				noAbove(t, s, p[len(p)-1], api.ErrRoot)
			}
		}
	}
}

func TestNoPath(t *testing.T) {
	for _, s := range []Shape{{1, 64, 32}, {1000, 64, 32}, {1 << 20, 128, 64}, {1 << 40, 64, 32}, {1 << 40, 4096, 32}} {
		n := countsOf(t, s)[0]
		for _, i := range []int{n, n + 1, 2 * n, -1, -2, -n, 1 << 40, 1 << 53, 1<<53 + 1, math.MaxInt, math.MaxInt - 1, math.MinInt, math.MinInt + 1, math.MinInt + 5} {
			noPath(t, s, i, api.ErrRange)
		}
	}
}

// The rule of memory

// Answers written over, their spare room too, change no later answer.
func TestAnswersAreNew(t *testing.T) {
	for _, s := range []Shape{{1, 64, 32}, {1000, 64, 32}, {1 << 40, 64, 32}} {
		counts, path := slices.Clone(countsOf(t, s)), make([]complex128, 0)
		for range 3 {
			c := countsOf(t, s)
			p, e := s.Path(0)
			if len(path) == 0 {
				path = slices.Clone(p)
			}
			if e != api.OK || !slices.Equal(c, counts) || !slices.Equal(p, path) {
				t.Fatalf("%v: %v, %v, %d", s, c, p, e)
			}
			for i := range c[:cap(c)] {
				c[:cap(c)][i] = -7
			}
			for i := range p[:cap(p)] {
				p[:cap(p)][i] = -7
			}
		}
	}
}
