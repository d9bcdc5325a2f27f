package vault

import (
	"bytes"
	"math"
	"math/rand"
	"slices"
	"testing"

	"sallyport/api"
)

// rooted are the 32 bytes from one on.
func rooted(from int) []byte {
	b := make([]byte, 32)
	for i := range b {
		b[i] = byte(from + i)
	}
	return b
}

// made is a vault of a root that is right.
func made(t *testing.T, locked bool) *Vault {
	t.Helper()
	v, e := New(rooted(1), locked)
	if e != api.OK || v == nil {
		t.Fatalf("New: %v, %d", v, e)
	}
	return v
}

// locks checks what Lock answers.
func locks(t *testing.T, v *Vault, on bool, want api.Errno) {
	t.Helper()
	if e := v.Lock(on); e != want {
		t.Fatalf("Lock(%t): %d, not %d", on, e, want)
	}
}

// raises checks what Raise answers.
func raises(t *testing.T, v *Vault, location int, index int, want api.Errno) {
	t.Helper()
	if e := v.Raise(location, index); e != want {
		t.Fatalf("Raise(%d, %d): %d, not %d", location, index, e, want)
	}
}

// told is all that a vault tells.
type told struct {
	root    [32]byte
	locked  bool
	indexes [32]int
	down    bool
	changes int
}

// tells is what a vault tells of itself.
func tells(t *testing.T, v *Vault) told {
	t.Helper()
	root := v.Root()
	if len(root) != 32 {
		t.Fatalf("Root: %x", root)
	}
	all := told{root: [32]byte(root), locked: v.Locked(), down: v.Down(), changes: v.Changes()}
	for location := range all.indexes {
		n, e := v.Index(location)
		if e != api.OK {
			t.Fatalf("Index(%d): %d", location, e)
		}
		all.indexes[location] = n
	}
	return all
}

// is checks all that a vault tells.
func is(t *testing.T, v *Vault, want told) {
	t.Helper()
	if got := tells(t, v); got != want {
		t.Fatalf("%v, not %v", got, want)
	}
}

// fresh is what a vault of made tells at first.
func fresh(locked bool) told { return told{root: [32]byte(rooted(1)), locked: locked} }

// noLocations are numbers that no location has.
func noLocations() []int {
	return []int{-1, -2, -32, 32, 33, 63, 64, 100, 1 << 8, 1 << 16, 1 << 31, 1 << 32, 1<<32 + 3, -1 << 32, 1 << 62, 1<<63 - 32,
		math.MaxInt, math.MaxInt - 1, math.MinInt, math.MinInt + 1, math.MinInt + 3}
}

// noIndexes are numbers that no index can be.
func noIndexes() []int {
	return []int{-1, -2, -5, -1 << 32, -1 << 48, api.MaxIndex + 1, api.MaxIndex + 2, 2 * api.MaxIndex, 1 << 62,
		math.MaxInt, math.MaxInt - 1, math.MinInt, math.MinInt + 1, math.MinInt + 5}
}

// P11.1

func TestNewRoots(t *testing.T) {
	for n := range 200 {
		for _, locked := range []bool{false, true} {
			root := bytes.Repeat([]byte{byte(n)}, n)
			v, e := New(root, locked)
			if n != 32 {
				if e != api.ErrForm || v != nil {
					t.Fatalf("%d: %v, %d", n, v, e)
				}
				continue
			}
			if e != api.OK || v == nil || !bytes.Equal(v.Root(), root) || v.Locked() != locked {
				t.Fatalf("%d, %t: %v, %d", n, locked, v, e)
			}
		}
	}
	for _, n := range []int{256 + 32, 1<<16 + 32, 1 << 20} {
		if v, e := New(make([]byte, n), true); e != api.ErrForm || v != nil {
			t.Errorf("%d: %v, %d", n, v, e)
		}
	}
	if v, e := New(nil, true); e != api.ErrForm || v != nil {
		t.Errorf("%v, %d", v, e)
	}
}

// Any bytes are a root.
func TestNewRootBytes(t *testing.T) {
	r := rand.New(rand.NewSource(1))
	roots := [][]byte{make([]byte, 32), bytes.Repeat([]byte{0xff}, 32)}
	for range 100 {
		b := make([]byte, 32)
		r.Read(b)
		roots = append(roots, b)
	}
	for _, root := range roots {
		v, e := New(root, true)
		if e != api.OK || !bytes.Equal(v.Root(), root) {
			t.Fatalf("%x: %d", root, e)
		}
	}
}

// A new vault has indexes of 0, its power, no change done, and isn't armed.
func TestNewVault(t *testing.T) {
	for _, locked := range []bool{false, true} {
		v := made(t, locked)
		want := fresh(locked)
		is(t, v, want)
		for i := range 100 {
			locks(t, v, !locked, api.OK)
			raises(t, v, i%32, 1, api.OK)
		}
		if v.Down() {
			t.Error("down")
		}
	}
}

func TestIndexLocations(t *testing.T) {
	v := made(t, true)
	for location := range 32 {
		if n, e := v.Index(location); n != 0 || e != api.OK {
			t.Errorf("%d: %d, %d", location, n, e)
		}
		raises(t, v, location, 100+location, api.OK)
	}
	for location := -100; location < 200; location++ {
		n, e := v.Index(location)
		if location >= 0 && location < 32 {
			if n != 100+location || e != api.OK {
				t.Errorf("%d: %d, %d", location, n, e)
			}
		} else if n != 0 || e != api.ErrRange {
			t.Errorf("%d: %d, %d", location, n, e)
		}
	}
	for _, location := range noLocations() {
		if n, e := v.Index(location); n != 0 || e != api.ErrRange {
			t.Errorf("%d: %d, %d", location, n, e)
		}
	}
}

// What a vault says of itself, it says without its power too.
func TestToldWhileDown(t *testing.T) {
	v := made(t, true)
	raises(t, v, 7, 70, api.OK)
	v.Arm(0, false)
	locks(t, v, false, api.ErrDown)
	want := fresh(true)
	want.indexes[7], want.changes, want.down = 70, 1, true
	is(t, v, want)
	for _, location := range noLocations() {
		if n, e := v.Index(location); n != 0 || e != api.ErrRange {
			t.Errorf("%d: %d, %d", location, n, e)
		}
	}
}

// P11.2

func TestLock(t *testing.T) {
	for _, locked := range []bool{false, true} {
		v := made(t, locked)
		raises(t, v, 4, 40, api.OK)
		want := fresh(locked)
		want.indexes[4], want.changes = 40, 1
		for _, on := range []bool{true, true, false, false, true, false} {
			locks(t, v, on, api.OK)
			want.locked = on
			want.changes++
			is(t, v, want)
		}
	}
}

// Each location has an index of its own, up to the greatest one.
func TestRaiseEachLocation(t *testing.T) {
	for _, locked := range []bool{false, true} {
		v := made(t, locked)
		want := fresh(locked)
		for _, index := range []int{0, 0, 1, 2, 2, 255, 256, 1 << 31, 1 << 32, 1<<32 + 1, api.MaxIndex - 1, api.MaxIndex, api.MaxIndex} {
			for location := range 32 {
				raises(t, v, location, index, api.OK)
				want.indexes[location] = index
				want.changes++
				is(t, v, want)
			}
		}
		for location := range 32 {
			raises(t, v, location, api.MaxIndex+1, api.ErrRange)
			raises(t, v, location, api.MaxIndex-1, api.ErrRollback)
			raises(t, v, location, 0, api.ErrRollback)
		}
		is(t, v, want)
	}
}

// The document's own example.
func TestRaiseExample(t *testing.T) {
	v := made(t, true)
	raises(t, v, 3, 5, api.OK)
	raises(t, v, 3, 4, api.ErrRollback)
	want := fresh(true)
	want.indexes[3], want.changes = 5, 1
	is(t, v, want)
}

// Each index after each other one: none goes down.
func TestRaiseNeverBack(t *testing.T) {
	for from := range 20 {
		for to := -3; to < 23; to++ {
			v := made(t, true)
			raises(t, v, 9, from, api.OK)
			want := fresh(true)
			want.indexes[9], want.changes = from, 1
			switch {
			case to < 0:
				raises(t, v, 9, to, api.ErrRange)
			case to < from:
				raises(t, v, 9, to, api.ErrRollback)
			default:
				raises(t, v, 9, to, api.OK)
				want.indexes[9], want.changes = to, 2
			}
			is(t, v, want)
			// The index of another location has no say.
			raises(t, v, 8, 0, api.OK)
		}
	}
}

func TestRaiseOutOfRange(t *testing.T) {
	v := made(t, true)
	raises(t, v, 0, 3, api.OK)
	raises(t, v, 31, 3, api.OK)
	want := tells(t, v)
	for _, location := range noLocations() {
		for _, index := range append(noIndexes(), 0, 1, 2, 3, 4, api.MaxIndex) {
			raises(t, v, location, index, api.ErrRange)
		}
	}
	for location := range 32 {
		for _, index := range noIndexes() {
			raises(t, v, location, index, api.ErrRange)
		}
	}
	is(t, v, want)
}

func TestErrorsInTheirOrder(t *testing.T) {
	v := made(t, true)
	raises(t, v, 3, 5, api.OK)
	raises(t, v, 3, -1, api.ErrRange)
	raises(t, v, 3, 4, api.ErrRollback)
	v.Arm(0, false)
	// What is refused anyway doesn't take the power away.
	raises(t, v, 3, -1, api.ErrRange)
	raises(t, v, 32, 4, api.ErrRange)
	raises(t, v, 3, 4, api.ErrRollback)
	if v.Down() {
		t.Fatal("down")
	}
	raises(t, v, 3, 6, api.ErrDown)
	want := tells(t, v)
	for _, location := range append(noLocations(), 0, 3, 31) {
		for _, index := range append(noIndexes(), 0, 4, 5, 6, api.MaxIndex) {
			raises(t, v, location, index, api.ErrDown)
		}
	}
	locks(t, v, true, api.ErrDown)
	locks(t, v, false, api.ErrDown)
	is(t, v, want)
	if !want.down || want.indexes[3] != 5 || want.changes != 1 {
		t.Errorf("%v", want)
	}
}

// P11.3

// A change that is done by half would show in one of what a vault tells.
func TestTorn(t *testing.T) {
	for _, done := range []bool{false, true} {
		for _, locked := range []bool{false, true} {
			for _, on := range []bool{false, true} {
				v := made(t, locked)
				v.Arm(0, done)
				is(t, v, fresh(locked))
				locks(t, v, on, api.ErrDown)
				want := fresh(locked)
				if done {
					want.locked, want.changes = on, 1
				}
				want.down = true
				is(t, v, want)
				v.Boot()
				want.down = false
				is(t, v, want)
			}
			for location := range 32 {
				for _, index := range []int{7, 8, api.MaxIndex} {
					v := made(t, locked)
					raises(t, v, location, 7, api.OK)
					v.Arm(0, done)
					raises(t, v, location, index, api.ErrDown)
					want := fresh(locked)
					want.indexes[location], want.changes, want.down = 7, 1, true
					if done {
						want.indexes[location], want.changes = index, 2
					}
					is(t, v, want)
					v.Boot()
					want.down = false
					is(t, v, want)
					raises(t, v, location, want.indexes[location]-1, api.ErrRollback)
				}
			}
		}
	}
}

// So many changes are done, of both calls alike, and the next one is torn.
func TestArmCounts(t *testing.T) {
	for n := range 40 {
		for _, done := range []bool{false, true} {
			v := made(t, false)
			v.Arm(n, done)
			want := fresh(false)
			for i := range n {
				if i%3 == 0 {
					locks(t, v, i%2 == 0, api.OK)
					want.locked = i%2 == 0
				} else {
					raises(t, v, i%5, i, api.OK)
					want.indexes[i%5] = i
				}
				want.changes++
				is(t, v, want)
			}
			raises(t, v, 30, 300, api.ErrDown)
			if done {
				want.indexes[30] = 300
				want.changes++
			}
			want.down = true
			for range 3 {
				raises(t, v, 29, 9, api.ErrDown)
				locks(t, v, true, api.ErrDown)
			}
			is(t, v, want)
			v.Boot()
			for range 50 {
				raises(t, v, 29, 9, api.OK)
				locks(t, v, true, api.OK)
			}
			want.down, want.locked, want.indexes[29], want.changes = false, true, 9, want.changes+100
			is(t, v, want)
		}
	}
}

// Only calls that would be answered OK are counted: none that is refused, and
// none of those that only tell; but those that leave all as it is are.
func TestArmCountsWhatIsDone(t *testing.T) {
	v := made(t, true)
	raises(t, v, 3, 5, api.OK)
	v.Arm(2, true)
	refused := func() {
		t.Helper()
		raises(t, v, 3, 4, api.ErrRollback)
		raises(t, v, 32, 9, api.ErrRange)
		raises(t, v, -1, 9, api.ErrRange)
		raises(t, v, 3, api.MaxIndex+1, api.ErrRange)
		raises(t, v, 3, -1, api.ErrRange)
		v.Index(32)
		tells(t, v)
	}
	refused()
	locks(t, v, true, api.OK)
	refused()
	raises(t, v, 3, 5, api.OK)
	refused()
	if v.Down() || v.Changes() != 3 {
		t.Fatalf("%t, %d", v.Down(), v.Changes())
	}
	raises(t, v, 3, 5, api.ErrDown)
	want := fresh(true)
	want.indexes[3], want.changes, want.down = 5, 4, true
	is(t, v, want)
}

func TestArmBelowNought(t *testing.T) {
	for _, n := range []int{-1, -2, -32, -1 << 32, math.MinInt, math.MinInt + 1} {
		for _, armed := range []int{-1, 0, 1, 5, math.MaxInt} {
			for _, done := range []bool{false, true} {
				v := made(t, false)
				v.Arm(armed, !done)
				v.Arm(n, done)
				for i := range 64 {
					raises(t, v, 2, i, api.OK)
					locks(t, v, true, api.OK)
				}
				want := fresh(true)
				want.indexes[2], want.changes = 63, 128
				is(t, v, want)
			}
		}
	}
}

// The last call of Arm holds, with its own number and its own word.
func TestArmAgain(t *testing.T) {
	for _, done := range []bool{false, true} {
		v := made(t, false)
		v.Arm(0, !done)
		v.Arm(1, !done)
		raises(t, v, 1, 1, api.OK)
		v.Arm(math.MaxInt, !done)
		for range 100 {
			raises(t, v, 1, 1, api.OK)
		}
		v.Arm(2, done)
		raises(t, v, 1, 2, api.OK)
		raises(t, v, 1, 3, api.OK)
		raises(t, v, 1, 4, api.ErrDown)
		want := fresh(false)
		want.indexes[1], want.changes, want.down = 3, 103, true
		if done {
			want.indexes[1], want.changes = 4, 104
		}
		is(t, v, want)
	}
}

// Arming doesn't bring the power back, nor outlives it.
func TestArmWhileDown(t *testing.T) {
	for _, n := range []int{-1, 0, 3, math.MaxInt} {
		v := made(t, false)
		v.Arm(0, false)
		raises(t, v, 1, 1, api.ErrDown)
		v.Arm(n, true)
		want := fresh(false)
		want.down = true
		is(t, v, want)
		raises(t, v, 1, 1, api.ErrDown)
		locks(t, v, true, api.ErrDown)
		is(t, v, want)
		v.Boot()
		want.down = false
		is(t, v, want)
		for range 10 {
			raises(t, v, 1, 1, api.OK)
			locks(t, v, true, api.OK)
		}
	}
}

// A vault that isn't down is booted too: it isn't armed any more, and nothing
// else is another.
func TestBoot(t *testing.T) {
	v := made(t, true)
	v.Boot()
	is(t, v, fresh(true))
	raises(t, v, 6, 60, api.OK)
	locks(t, v, false, api.OK)
	want := tells(t, v)
	for _, n := range []int{-1, 0, 1, 5} {
		v.Arm(n, true)
		v.Boot()
		v.Boot()
		is(t, v, want)
		for range 20 {
			raises(t, v, 6, 60, api.OK)
			want.changes++
		}
		is(t, v, want)
	}
}

// The whole, against a vault reckoned by lists of what befell it.

// call is one of Lock and Raise.
type call struct {
	raise    bool
	on       bool
	location int
	index    int
}

// model has the calls that were done; what a vault tells is read out of them.
type model struct {
	start       bool
	done        []call
	down, armed bool
	left        int
	last        bool
}

func (m *model) tells() told {
	all := fresh(m.start)
	for _, c := range m.done {
		if c.raise {
			all.indexes[c.location] = c.index
		} else {
			all.locked = c.on
		}
	}
	all.down, all.changes = m.down, len(m.done)
	return all
}

func (m *model) fault(c call) api.Errno {
	if m.down {
		return api.ErrDown
	}
	if !c.raise {
		return api.OK
	}
	indexes := m.tells().indexes
	if c.location != c.location&31 || c.index < 0 || c.index > 1<<48 {
		return api.ErrRange
	}
	if slices.Max([]int{c.index, indexes[c.location]}) != c.index {
		return api.ErrRollback
	}
	return api.OK
}

func (m *model) do(c call) api.Errno {
	if e := m.fault(c); e != api.OK {
		return e
	}
	m.down = m.armed && m.left == 0
	if !m.down || m.last {
		m.done = append(m.done, c)
	}
	m.left--
	if m.down {
		return api.ErrDown
	}
	return api.OK
}

// step does one thing to both, and checks that they are alike.
func step(t *testing.T, r *rand.Rand, v *Vault, m *model) {
	t.Helper()
	switch r.Intn(8) {
	case 0, 1:
		on := r.Intn(2) == 0
		locks(t, v, on, m.do(call{on: on}))
	case 2, 3, 4:
		location, index := r.Intn(5)-1, r.Intn(40)-1
		if r.Intn(4) == 0 {
			location = 28 + r.Intn(6)
		}
		if r.Intn(30) == 0 {
			index = api.MaxIndex - 1 + r.Intn(3)
		}
		raises(t, v, location, index, m.do(call{raise: true, location: location, index: index}))
	case 5:
		n, last := r.Intn(8)-1, r.Intn(2) == 0
		v.Arm(n, last)
		m.armed, m.left, m.last = n >= 0, n, last
	default:
		if m.down || r.Intn(4) == 0 {
			v.Boot()
			m.armed, m.down = false, false
		}
	}
	is(t, v, m.tells())
}

func TestAgainstTheModel(t *testing.T) {
	r := rand.New(rand.NewSource(2))
	for range 200 {
		locked := r.Intn(2) == 0
		v, m := made(t, locked), &model{start: locked}
		last := tells(t, v)
		for range 300 {
			step(t, r, v, m)
			now := tells(t, v)
			for location, n := range now.indexes {
				if n < last.indexes[location] {
					t.Fatalf("%d went down: %d, %d", location, last.indexes[location], n)
				}
			}
			last = now
		}
	}
}

// The rule of memory

func TestRootIsNotKept(t *testing.T) {
	root := append(make([]byte, 0, 64), rooted(1)...)
	room := root[:64]
	for i := 32; i < 64; i++ {
		room[i] = 0xEE
	}
	v, e := New(root, true)
	if e != api.OK || !bytes.Equal(root, rooted(1)) || !bytes.Equal(room[32:], bytes.Repeat([]byte{0xEE}, 32)) {
		t.Fatalf("%d, %x", e, room)
	}
	for i := range room {
		room[i] = 0x55
	}
	is(t, v, fresh(true))
	// What is told is the caller's own, each time.
	first, second := v.Root(), v.Root()
	first = first[:cap(first)]
	for i := range first {
		first[i] = 0xAA
	}
	if !bytes.Equal(second, rooted(1)) {
		t.Errorf("%x", second)
	}
	is(t, v, fresh(true))
	if !bytes.Equal(room, bytes.Repeat([]byte{0x55}, 64)) {
		t.Errorf("%x", room)
	}
}

// Two vaults of the same root have nothing in common.
func TestVaultsApart(t *testing.T) {
	v, other := made(t, true), made(t, true)
	raises(t, v, 3, 5, api.OK)
	v.Arm(0, true)
	locks(t, v, false, api.ErrDown)
	is(t, other, fresh(true))
	raises(t, other, 3, 4, api.OK)
	want := fresh(false)
	want.indexes[3], want.changes, want.down = 5, 2, true
	is(t, v, want)
}
