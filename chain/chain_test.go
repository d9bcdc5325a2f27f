package chain

import (
	"bytes"
	"crypto/sha256"
	"crypto/sha512"
	"encoding/hex"
	"fmt"
	"math"
	"math/rand"
	"slices"
	"strings"
	"testing"

	"sallyport/api"
	"sallyport/blob"
	"sallyport/descr"
	"sallyport/drive"
	"sallyport/key"
	"sallyport/tail"
	"sallyport/vault"
)

// owner is who signs: by a modulus, and the secret to it, in hexadecimal.
type owner struct{ modulus, secret string }

// root signs slots; vendor and stranger sign other images; long has a key that
// is long enough for both algorithms.
var (
	root = owner{
		"d8feb5d3a5f6e78d2febceafb1f02953ba18b3fe2d1d66d2d29a2531b14518d1327576e7564a23d277b8cda731bffaf59450c57f4ca158b909a8ea5cef16759b",
		"af35b3312affdae5787d298d59dab633e1be928f387456130273ee765a51957fcf561f787e6c0b0522205e327c914a9e22605df8447a1bd316c04d6c8f15e469",
	}
	vendor = owner{
		"c89feb5f92cb4ea5d83305e7b0901597be5da1e47e26d065a99689907dc4d9cf56c5ae4006d5f9501c758277da6691425e477f3dd4b6e83a95c9a34801ae77b9",
		"b5092999ea9aaef3946e264bf5d56ec6a92f50a120fce15c7b75add8c6c4d54d5aa5a0f2291e32a3f26d98013e6e9787d172907ac502a91d34107ab6f46b9ae9",
	}
	stranger = owner{
		"ce2aaeaee8d1cc5f7356be515616166c716a20cf75da6b8eb5a5ae70c49ce9fe3c54a644b8c9b568f73b96d59dcaefb72bdf3a92ebbd029e26af825ea2ed468d",
		"8921cadf7ced4fcb8da47d230ce7d4327d9de2051c971443f07f2bf0c656b92cb8c4f147177b204ffbe83e18ad417f60a5e54ea70196d97722242dabfc2fa6e1",
	}
	long = owner{
		"a32f991a59caa804466ca7bc3507899cd263640c3dff693ce5c3112dbb481d8a6bd9c489fe768beed9c11fae3176372797c07927f57470e369cf671c5485fd952c9303692c4e7724cc6527c2f4567dbbdf9a914ee130eaf6fe9df85798a8a5ae1cf9ac17934bdf6185188b6897bb267d914fc516fcdc654273e57ae51de854b3",
		"2f33dc7887d29c092889d377186bc6bd8b09deedbf9d3ac6b7bb5623c15199e1e952838c5b03d574509e915864cc4a25f4ba631150e9cea1a980a9d5c309431146229d87afefa82c46090225011be5e3bd4124acad63fdf98826767c0c7f9062ff3ebf8655fdd5e3625a1ee9260b4a115b51d53b6ef3449b3e9d98d026dab319",
	}
)

func unhex(s string) []byte {
	b, err := hex.DecodeString(s)
	if err != nil {
		panic(err)
	}
	return b
}

// key are the bytes of an owner's key.
func (o owner) key() []byte {
	k, e := key.Make(unhex(o.modulus))
	if e != api.OK {
		panic(e)
	}
	return k.Bytes()
}

// dataSize is how many bytes of each partition are data: none of them 0, and
// no two partitions' alike.
const dataSize = 256

func dataOf(name string) []byte {
	b := make([]byte, dataSize)
	for i := range b {
		b[i] = 1 + (name[i%len(name)]+byte(i))%251
	}
	return b
}

// slot is a drive and a vault that a slot a is put on.
type slot struct {
	t *testing.T
	d *drive.Drive
	v *vault.Vault
}

// room is how many bytes a partition has.
const room = 4096

// newSlot is one with data, but without a blob; the vault has the root's key.
func newSlot(t *testing.T) *slot {
	t.Helper()
	var parts []drive.Part
	for _, name := range []string{"vbmeta_a", "boot_a", "vendor_a", "radio_a", "system_a", "vbmeta", "vbmeta_b", "boot_b"} {
		parts = append(parts, drive.Part{Name: name, Size: room})
	}
	parts = append(parts, drive.Part{Name: "least_a", Size: 64})
	d, e := drive.New(parts)
	if e != api.OK {
		t.Fatal(e)
	}
	for _, p := range parts {
		d.Write(p.Name, 0, dataOf(p.Name)[:min(dataSize, p.Size)])
	}
	s := &slot{t: t, d: d}
	s.trust(root)
	return s
}

// trust makes a new vault with an owner's key.
func (s *slot) trust(o owner) {
	name := sha256.Sum256(o.key())
	v, e := vault.New(name[:], true)
	if e != api.OK {
		s.t.Fatal(e)
	}
	s.v = v
}

// put stores a blob of an owner behind a partition's data.
func (s *slot) put(name string, h blob.Head, o owner, list ...descr.Descr) {
	s.t.Helper()
	raw, e := blob.Make(h, list, unhex(o.modulus), unhex(o.secret))
	if e != api.OK {
		s.t.Fatalf("%s: %v %v: %d", name, h, list, e)
	}
	s.store(name, raw)
}

// store stores bytes as a partition's blob.
func (s *slot) store(name string, raw []byte) {
	s.t.Helper()
	if e := tail.Store(s.d, name, dataSize, raw); e != api.OK {
		s.t.Fatal(name, e)
	}
}

// main puts the root's image of slot a, with these descriptors.
func (s *slot) main(list ...descr.Descr) {
	s.t.Helper()
	s.put("vbmeta_a", blob.Head{Alg: 1}, root, list...)
}

func (s *slot) raise(location int, index int) {
	s.t.Helper()
	if e := s.v.Raise(location, index); e != api.OK {
		s.t.Fatal(location, index, e)
	}
}

// told is all of a finding, as text: nil and empty lists alike.
func told(f Finding) string {
	return fmt.Sprintf("%d at %q, flags %d, indexes %v, trees %+v, lines %x", f.Code, f.Where, f.Flags, f.Indexes, f.Trees, f.Lines)
}

// finds checks what is found of slot a.
func (s *slot) finds(want Finding) {
	s.t.Helper()
	if got := Verify(s.d, s.v, "_a"); told(got) != told(want) {
		s.t.Fatalf("got  %s\nwant %s", told(got), told(want))
	}
}

// fails checks that slot a isn't right, and that nothing else is told of it.
func (s *slot) fails(e api.Errno, where string) {
	s.t.Helper()
	s.finds(Finding{Code: e, Where: where})
}

// The descriptors.

func propertyOf(name string) descr.Descr { return descr.Descr{Name: name, Value: []byte("v")} }

func lineOf(words string) descr.Descr { return descr.Descr{Kind: 3, Value: []byte(words)} }

func chainOf(name string, location int, o owner) descr.Descr {
	return descr.Descr{Kind: 4, Name: name, Location: location, Key: o.key()}
}

// sumOf is a digest, reckoned by the library.
func sumOf(alg int, text ...[]byte) []byte {
	if alg == 1 {
		b := sha256.Sum256(bytes.Join(text, nil))
		return b[:]
	}
	b := sha512.Sum512(bytes.Join(text, nil))
	return b[:]
}

// hashOf is right of the first bytes of a partition of slot a.
func hashOf(name string, alg int, size int, salt string) descr.Descr {
	b := append(dataOf(name+"_a"), make([]byte, room)...)[:size]
	return descr.Descr{Kind: 2, Name: name, Alg: alg, Size: size, Salt: []byte(salt), Digest: sumOf(alg, []byte(salt), b)}
}

// treeOf is a tree over 5 blocks of 64 bytes, that has 6 of its own.
func treeOf(name string, off int) descr.Descr {
	return descr.Descr{Kind: 1, Name: name, Alg: 1, Size: 300, Block: 64, Off: off, Salt: []byte("salt"), Digest: bytes.Repeat([]byte{7}, 32)}
}

const treeSize = 6 * 64

// spoilt is d with another digest.
func spoilt(d descr.Descr) descr.Descr {
	d.Digest = bytes.Clone(d.Digest)
	d.Digest[len(d.Digest)-1] ^= 1
	return d
}

// P15.1: examples, and what is found

func TestExampleWithoutAPartition(t *testing.T) {
	d, _ := drive.New([]drive.Part{{Name: "vbmeta_b", Size: 64}})
	s := newSlot(t)
	s.d = d
	s.fails(api.ErrPart, "vbmeta_a")
}

func TestNothingIsSaid(t *testing.T) {
	s := newSlot(t)
	s.main()
	s.finds(Finding{Indexes: []Index{{0, 0}}})
	s.put("vbmeta_a", blob.Head{Alg: 1, Index: 7, Location: 5}, root)
	s.finds(Finding{Indexes: []Index{{5, 7}}})
	s.put("vbmeta_a", blob.Head{Alg: 1, Index: api.MaxIndex, Location: 31}, root)
	s.finds(Finding{Indexes: []Index{{31, api.MaxIndex}}})
}

// whole is a slot that says something of every kind.
func whole(t *testing.T) *slot {
	s := newSlot(t)
	s.put("vbmeta_a", blob.Head{Alg: 1, Index: 4, Location: 2}, root,
		lineOf("one"), chainOf("vendor", 9, vendor), hashOf("boot", 1, 100, "s"), propertyOf("p"),
		treeOf("system", 512), lineOf("four"), chainOf("radio", 1, long), hashOf("system", 2, 256, ""))
	s.put("vendor_a", blob.Head{Alg: 1, Index: 6, Location: 3}, vendor,
		lineOf("two"), treeOf("vendor", 1024), propertyOf("radio"), hashOf("vendor", 1, 17, "salt"), lineOf("three"))
	s.put("radio_a", blob.Head{Alg: 2, Index: 8}, long, lineOf("five"), lineOf("five"))
	return s
}

func wholeFinding() Finding {
	return Finding{
		Indexes: []Index{{2, 4}, {9, 6}, {1, 8}},
		Trees:   []descr.Descr{treeOf("vendor", 1024), treeOf("system", 512)},
		Lines:   [][]byte{[]byte("one"), []byte("two"), []byte("three"), []byte("four"), []byte("five"), []byte("five")},
	}
}

func TestAllKindsInTheirOrder(t *testing.T) { whole(t).finds(wholeFinding()) }

func TestBothAlgorithms(t *testing.T) {
	for _, alg := range []int{1, 2} {
		s := newSlot(t)
		s.trust(long)
		s.put("vbmeta_a", blob.Head{Alg: alg, Index: 1}, long, hashOf("boot", alg, 200, "salt"))
		s.finds(Finding{Indexes: []Index{{0, 1}}})
	}
}

func TestAsManyAsThereMayBe(t *testing.T) {
	s := newSlot(t)
	var list []descr.Descr
	var want Finding
	want.Indexes = []Index{{0, 0}}
	for i := range api.MaxDescr {
		words := strings.Repeat(string(rune('a'+i)), i)
		list = append(list, lineOf(words))
		want.Lines = append(want.Lines, []byte(words))
	}
	s.main(list...)
	s.finds(want)
}

// All of the chains that a blob has room for: each is said at a location.
func TestManyChains(t *testing.T) {
	parts := []drive.Part{{Name: "vbmeta_a", Size: 8192}}
	var list []descr.Descr
	want := Finding{Indexes: []Index{{31, 0}}}
	for i := range api.MaxParts - 1 {
		name := fmt.Sprint("p", i)
		parts = append(parts, drive.Part{Name: name + "_a", Size: 2048})
		list = append(list, chainOf(name, 2*i+1, vendor))
		want.Indexes = append(want.Indexes, Index{2*i + 1, i})
		want.Trees = append(want.Trees, treeOf(name, 300))
	}
	s := newSlot(t)
	s.d, _ = drive.New(parts)
	s.put("vbmeta_a", blob.Head{Alg: 1, Location: 31}, root, list...)
	s.fails(api.ErrMagic, "p0_a")
	for i := range api.MaxParts - 1 {
		name := fmt.Sprint("p", i)
		s.put(name+"_a", blob.Head{Alg: 1, Index: i}, vendor, treeOf(name, 300))
	}
	// The last one's location is that of the slot's own index.
	want.Indexes[0].Location = 30
	s.put("vbmeta_a", blob.Head{Alg: 1, Location: 30}, root, list...)
	s.finds(want)
	s.put("vbmeta_a", blob.Head{Alg: 1, Location: 29}, root, list...)
	s.fails(api.ErrTwice, "p14_a")
}

func TestSuffixes(t *testing.T) {
	s := newSlot(t)
	s.put("vbmeta_b", blob.Head{Alg: 1, Index: 3}, root, hashOf("boot", 1, 10, ""))
	if f := Verify(s.d, s.v, "_b"); f.Code != api.ErrDigest || f.Where != "boot_b" {
		t.Fatal(told(f))
	}
	s.d.Write("boot_b", 0, dataOf("boot_a"))
	if f := Verify(s.d, s.v, "_b"); told(f) != told(Finding{Indexes: []Index{{0, 3}}}) {
		t.Fatal(told(f))
	}
	s.put("vbmeta", blob.Head{Alg: 1, Index: 5}, root, hashOf("boot", 1, 10, ""))
	if f := Verify(s.d, s.v, ""); f.Code != api.ErrPart || f.Where != "boot" {
		t.Fatal(told(f))
	}
	s.put("vbmeta", blob.Head{Alg: 1, Index: 5}, root, lineOf("l"))
	if f := Verify(s.d, s.v, ""); told(f) != told(Finding{Indexes: []Index{{0, 5}}, Lines: [][]byte{{'l'}}}) {
		t.Fatal(told(f))
	}
	for _, suffix := range []string{"_c", "_A", "_a ", "a", "__a", "\x00", "é", "\xff", "_a_a", strings.Repeat("x", 1<<16)} {
		if f := Verify(s.d, s.v, suffix); told(f) != told(Finding{Code: api.ErrPart, Where: "vbmeta" + suffix}) {
			t.Fatal(told(f))
		}
	}
}

// P15.1: the first blob

// spoiling puts what is wrong with a partition's blob of an owner, and tells
// the error that is to be answered.
type spoiling struct {
	what string
	do   func(s *slot, name string, o owner) api.Errno
}

// rawOf is a blob of nothing.
func rawOf(t *testing.T, o owner, alg int) []byte {
	t.Helper()
	raw, e := blob.Make(blob.Head{Alg: alg}, nil, unhex(o.modulus), unhex(o.secret))
	if e != api.OK {
		t.Fatal(e)
	}
	return raw
}

// turned is a blob of nothing, with a byte turned.
func turned(at int) func(s *slot, name string, o owner) api.Errno {
	return func(s *slot, name string, o owner) api.Errno {
		raw := rawOf(s.t, o, 1)
		raw[at] ^= 1
		s.store(name, raw)
		_, e := blob.Check(raw)
		return e
	}
}

// spoilings are what Load and Check refuse.
func spoilings() []spoiling {
	return []spoiling{
		{"no tail", func(s *slot, name string, o owner) api.Errno {
			s.d.Write(name, room-64, make([]byte, 64))
			return api.ErrMagic
		}},
		{"another tail's version", func(s *slot, name string, o owner) api.Errno {
			s.store(name, rawOf(s.t, o, 1))
			s.d.Turn(name, room-64+7, []byte{2})
			return api.ErrVersion
		}},
		{"no right tail", func(s *slot, name string, o owner) api.Errno {
			s.store(name, rawOf(s.t, o, 1))
			s.d.Turn(name, room-1, []byte{1})
			return api.ErrForm
		}},
		{"a blob beyond the partition", func(s *slot, name string, o owner) api.Errno {
			s.store(name, rawOf(s.t, o, 1))
			b, _ := tail.Encode(tail.Tail{Off: room - 128, Size: 65})
			s.d.Write(name, room-64, b)
			return api.ErrRange
		}},
		{"a bad sector at the end", func(s *slot, name string, o owner) api.Errno {
			s.store(name, rawOf(s.t, o, 1))
			s.d.Bad(name, room/64-1, true)
			return api.ErrRead
		}},
		{"a bad sector in the blob", func(s *slot, name string, o owner) api.Errno {
			s.store(name, rawOf(s.t, o, 1))
			s.d.Bad(name, dataSize/64, true)
			return api.ErrRead
		}},
		{"too short a blob", func(s *slot, name string, o owner) api.Errno {
			s.store(name, rawOf(s.t, o, 1)[:127])
			return api.ErrEnd
		}},
		{"no blob", turned(3)},
		{"another version", turned(7)},
		{"a byte too many", func(s *slot, name string, o owner) api.Errno {
			s.store(name, append(rawOf(s.t, o, 1), 0))
			return api.ErrForm
		}},
		{"an algorithm that is none", turned(24)},
		{"not signed", func(s *slot, name string, o owner) api.Errno {
			s.store(name, rawOf(s.t, o, 0))
			return api.ErrSign
		}},
		{"another index", turned(67)},
		{"another digest", turned(128)},
		{"another signature", turned(128 + 32)},
		{"another key", turned(128 + 128 + 16)},
	}
}

func TestFirstBlobIsRefused(t *testing.T) {
	var all []api.Errno
	for _, x := range spoilings() {
		s := newSlot(t)
		s.main()
		e := x.do(s, "vbmeta_a", root)
		if e == api.OK {
			t.Fatal(x.what)
		}
		s.fails(e, "vbmeta_a")
		all = append(all, e)
	}
	for _, e := range []api.Errno{api.ErrDigest, api.ErrSign, api.ErrForm, api.ErrEnd, api.ErrMagic, api.ErrVersion, api.ErrAlg} {
		if !slices.Contains(all, e) {
			t.Fatal(e, "is nowhere")
		}
	}
}

func TestFirstBlobLacksAPartitionOrThePower(t *testing.T) {
	s := newSlot(t)
	s.main(lineOf("l"))
	s.d.Arm(0, nil)
	s.d.Write("boot_a", 0, []byte{1})
	s.fails(api.ErrDown, "vbmeta_a")
	if f := Verify(s.d, s.v, "_none"); told(f) != told(Finding{Code: api.ErrDown, Where: "vbmeta_none"}) {
		t.Fatal(told(f))
	}
	s.d.Boot()
	s.finds(Finding{Indexes: []Index{{0, 0}}, Lines: [][]byte{{'l'}}})
}

func TestRoots(t *testing.T) {
	s := newSlot(t)
	for _, o := range []owner{vendor, stranger, long} {
		s.put("vbmeta_a", blob.Head{Alg: 1}, o)
		s.fails(api.ErrRoot, "vbmeta_a")
		s.trust(o)
		s.finds(Finding{Indexes: []Index{{0, 0}}})
		s.trust(root)
	}
	// A root that is unlike in one bit: of each byte of it.
	s.main()
	name := sha256.Sum256(root.key())
	for i := range name {
		other := name
		other[i] ^= 1 << (i % 8)
		s.v, _ = vault.New(other[:], true)
		s.fails(api.ErrRoot, "vbmeta_a")
	}
	// The name is a sum of the key's bytes, not the modulus'.
	name = sha256.Sum256(unhex(root.modulus))
	s.v, _ = vault.New(name[:], true)
	s.fails(api.ErrRoot, "vbmeta_a")
}

func TestFirstIndexes(t *testing.T) {
	for _, location := range []int{0, 1, 17, 31} {
		s := newSlot(t)
		s.raise(location, 5)
		s.put("vbmeta_a", blob.Head{Alg: 1, Index: 4, Location: location}, root)
		s.fails(api.ErrRollback, "vbmeta_a")
		for _, index := range []int{5, 6, api.MaxIndex} {
			s.put("vbmeta_a", blob.Head{Alg: 1, Index: index, Location: location}, root)
			s.finds(Finding{Indexes: []Index{{location, index}}})
		}
		// The other locations' indexes say nothing of it.
		s.put("vbmeta_a", blob.Head{Alg: 1, Location: (location + 1) % 32}, root)
		s.finds(Finding{Indexes: []Index{{(location + 1) % 32, 0}}})
		s.raise(location, api.MaxIndex)
		s.put("vbmeta_a", blob.Head{Alg: 1, Index: api.MaxIndex - 1, Location: location}, root)
		s.fails(api.ErrRollback, "vbmeta_a")
	}
}

// What is locked, and what is down, of the vault says nothing of a slot.
func TestVaultsState(t *testing.T) {
	s := whole(t)
	s.v.Lock(false)
	s.finds(wholeFinding())
	s.v.Arm(0, false)
	s.v.Lock(true)
	s.finds(wholeFinding())
}

// Of several faults of the first blob, the one that is named first is told.
func TestFirstBlobsErrorsInTheirOrder(t *testing.T) {
	s := newSlot(t)
	s.raise(0, 5)
	wrong := spoilt(hashOf("boot", 1, 10, ""))
	s.put("vbmeta_a", blob.Head{Alg: 1, Index: 5}, root, wrong)
	s.fails(api.ErrDigest, "boot_a")
	s.put("vbmeta_a", blob.Head{Alg: 1, Index: 4}, root, wrong)
	s.fails(api.ErrRollback, "vbmeta_a")
	s.put("vbmeta_a", blob.Head{Alg: 1, Index: 4}, vendor, wrong)
	s.fails(api.ErrRoot, "vbmeta_a")
	s.put("vbmeta_a", blob.Head{Index: 4}, vendor, wrong)
	s.fails(api.ErrSign, "vbmeta_a")
	s.d.Bad("vbmeta_a", dataSize/64, true)
	s.fails(api.ErrRead, "vbmeta_a")
}

// P15.1: flags

func TestFlagsAreTold(t *testing.T) {
	for flags := range 4 {
		s := newSlot(t)
		s.put("vbmeta_a", blob.Head{Alg: 1, Index: 1, Flags: flags, Location: 4}, root)
		s.finds(Finding{Flags: flags, Indexes: []Index{{4, 1}}})
	}
}

// wrongs are descriptors that are each refused of slot a, but of a tree only
// as long as trees are asked about.
func wrongs() []descr.Descr {
	return []descr.Descr{
		treeOf("none", 512), treeOf("system", room-treeSize+1),
		spoilt(hashOf("boot", 1, 1, "")), hashOf("none", 1, 0, ""), chainOf("none", 1, vendor), chainOf("vendor", 1, vendor),
	}
}

func TestFlagVerifyNothing(t *testing.T) {
	for _, flags := range []int{2, 3} {
		for _, x := range wrongs() {
			s := newSlot(t)
			s.put("vbmeta_a", blob.Head{Alg: 1, Flags: flags}, root, lineOf("l"), x, treeOf("boot", 512))
			s.finds(Finding{Flags: flags, Indexes: []Index{{0, 0}}})
		}
		// What is asked of the blob itself is asked all the same.
		s := newSlot(t)
		s.put("vbmeta_a", blob.Head{Alg: 1, Flags: flags}, vendor)
		s.fails(api.ErrRoot, "vbmeta_a")
		s.raise(0, 1)
		s.put("vbmeta_a", blob.Head{Alg: 1, Flags: flags}, root)
		s.fails(api.ErrRollback, "vbmeta_a")
	}
}

func TestFlagNoTrees(t *testing.T) {
	for _, x := range wrongs() {
		s := newSlot(t)
		s.put("vbmeta_a", blob.Head{Alg: 1, Flags: 1}, root, lineOf("l"), x)
		if x.Kind == 1 {
			s.finds(Finding{Flags: 1, Indexes: []Index{{0, 0}}, Lines: [][]byte{{'l'}}})
		} else if f := Verify(s.d, s.v, "_a"); f.Code == api.OK || f.Flags != 0 {
			t.Fatal(told(f))
		}
		s.main(lineOf("l"), x)
		if f := Verify(s.d, s.v, "_a"); f.Code == api.OK || f.Where != x.Name+"_a" {
			t.Fatal(told(f))
		}
	}
}

// The flag is the first image's, but tells of the chained ones' trees too.
func TestFlagNoTreesInChains(t *testing.T) {
	s := newSlot(t)
	list := []descr.Descr{treeOf("vendor", 512), chainOf("vendor", 1, vendor), treeOf("none", 512)}
	s.put("vbmeta_a", blob.Head{Alg: 1, Flags: 1}, root, list...)
	s.put("vendor_a", blob.Head{Alg: 1}, vendor, treeOf("vendor", 1<<30), lineOf("l"))
	s.finds(Finding{Flags: 1, Indexes: []Index{{0, 0}, {1, 0}}, Lines: [][]byte{{'l'}}})
	// A tree that is another partition's is told all the same.
	s.put("vendor_a", blob.Head{Alg: 1}, vendor, treeOf("system", 512))
	s.fails(api.ErrChain, "vendor_a")
	s.main(list...)
	s.put("vendor_a", blob.Head{Alg: 1}, vendor)
	s.fails(api.ErrPart, "none_a")
}

// P15.1: hashes

func TestHashSizes(t *testing.T) {
	s := newSlot(t)
	s.d.Write("least_a", 0, dataOf("least_a")[:64])
	for _, alg := range []int{1, 2} {
		for _, size := range []int{0, 1, 55, 63, 64, 65, 128, 255, 256, 257, room - 1, room} {
			s.main(hashOf("boot", alg, size, "salt"))
			s.finds(Finding{Indexes: []Index{{0, 0}}})
		}
		for _, size := range []int{room + 1, room + 64, 1 << 39, api.MaxSize} {
			x := hashOf("boot", alg, 0, "")
			x.Size = size
			s.main(x)
			s.fails(api.ErrEnd, "boot_a")
		}
		for _, size := range []int{0, 63, 64} {
			s.main(hashOf("least", alg, size, ""))
			s.finds(Finding{Indexes: []Index{{0, 0}}})
		}
		x := hashOf("least", alg, 64, "")
		x.Size = 65
		s.main(x)
		s.fails(api.ErrEnd, "least_a")
	}
}

func TestHashDigests(t *testing.T) {
	s := newSlot(t)
	for _, alg := range []int{1, 2} {
		x := hashOf("boot", alg, 100, "salt")
		for i := range x.Digest {
			y := x
			y.Digest = bytes.Clone(x.Digest)
			y.Digest[i] ^= 0x10
			s.main(y)
			s.fails(api.ErrDigest, "boot_a")
		}
		for _, salt := range []string{"", "sal", "salt ", strings.Repeat("s", api.MaxSalt)} {
			s.main(hashOf("boot", alg, 100, salt))
			s.finds(Finding{Indexes: []Index{{0, 0}}})
			y := x
			y.Salt = []byte(salt)
			s.main(y)
			s.fails(api.ErrDigest, "boot_a")
		}
		for _, size := range []int{0, 99, 101} {
			y := x
			y.Size = size
			s.main(y)
			s.fails(api.ErrDigest, "boot_a")
		}
	}
}

// A byte turned within the stretch is told; one behind it isn't.
func TestHashTurnedBits(t *testing.T) {
	s := newSlot(t)
	s.main(hashOf("boot", 1, 100, "s"))
	for at := range 130 {
		s.d.Turn("boot_a", at, []byte{1 << (at % 8)})
		if at < 100 {
			s.fails(api.ErrDigest, "boot_a")
		} else {
			s.finds(Finding{Indexes: []Index{{0, 0}}})
		}
		s.d.Turn("boot_a", at, []byte{1 << (at % 8)})
	}
}

func TestHashBadSectors(t *testing.T) {
	s := newSlot(t)
	s.main(hashOf("boot", 1, 128, "s"))
	for sector := range 4 {
		s.d.Bad("boot_a", sector, true)
		if sector < 2 {
			s.fails(api.ErrRead, "boot_a")
		} else {
			s.finds(Finding{Indexes: []Index{{0, 0}}})
		}
		s.d.Bad("boot_a", sector, false)
	}
	// No bytes touch no sector.
	s.main(hashOf("boot", 1, 0, "s"))
	s.d.Bad("boot_a", 0, true)
	s.finds(Finding{Indexes: []Index{{0, 0}}})
}

func TestHashErrorsInTheirOrder(t *testing.T) {
	s := newSlot(t)
	x := spoilt(hashOf("boot", 1, 128, "s"))
	s.main(x)
	s.fails(api.ErrDigest, "boot_a")
	s.d.Bad("boot_a", 1, true)
	s.fails(api.ErrRead, "boot_a")
	x.Size = room + 1
	s.main(x)
	s.fails(api.ErrEnd, "boot_a")
	x.Name = "boot_a"
	s.main(x)
	s.fails(api.ErrPart, "boot_a_a")
}

// P15.1: trees

func TestTreeStretches(t *testing.T) {
	s := newSlot(t)
	for _, off := range []int{300, 301, 512, room - treeSize - 64, room - treeSize - 1, room - treeSize} {
		x := treeOf("system", off)
		s.main(x)
		s.finds(Finding{Indexes: []Index{{0, 0}}, Trees: []descr.Descr{x}})
	}
	for _, off := range []int{room - treeSize + 1, room - treeSize + 64, room - 1, room, room + 1, 1 << 39, api.MaxSize - treeSize, api.MaxSize} {
		s.main(treeOf("system", off))
		s.fails(api.ErrRange, "system_a")
	}
}

// A tree's own bytes are within the partition, if it has any.
func TestTreesWithoutBytes(t *testing.T) {
	s := newSlot(t)
	x := descr.Descr{Kind: 1, Name: "system", Alg: 2, Size: 4096, Block: 4096, Digest: bytes.Repeat([]byte{7}, 64)}
	for _, off := range []int{room, room + 1, room + 64, api.MaxSize} {
		x.Off = off
		s.main(x)
		if off == room {
			s.finds(Finding{Indexes: []Index{{0, 0}}, Trees: []descr.Descr{x}})
		} else {
			s.fails(api.ErrRange, "system_a")
		}
	}
	x.Size = 1
	for off := 1; off <= room; off += 117 {
		x.Off = off
		s.main(x)
		s.finds(Finding{Indexes: []Index{{0, 0}}, Trees: []descr.Descr{x}})
	}
}

// totalOf is how many bytes a tree has, reckoned from its data up.
func totalOf(size int, block int, digest int) int {
	total := 0
	for n := (size + block - 1) / block; n > 1; {
		n = (n*digest + block - 1) / block
		total += n * block
	}
	return total
}

// Trees of many shapes: each ends with the partition, and one byte beyond it.
func TestTreeShapes(t *testing.T) {
	s := newSlot(t)
	for _, alg := range []int{1, 2} {
		for block := 64 * alg; block <= 1024; block *= 2 {
			for _, size := range []int{1, block, block + 1, 3 * block, 5*block - 1} {
				x := descr.Descr{Kind: 1, Name: "system", Alg: alg, Size: size, Block: block, Digest: bytes.Repeat([]byte{7}, 32*alg)}
				x.Off = room - totalOf(size, block, 32*alg)
				if x.Off < size {
					continue
				}
				s.main(x)
				s.finds(Finding{Indexes: []Index{{0, 0}}, Trees: []descr.Descr{x}})
				x.Off++
				s.main(x)
				s.fails(api.ErrRange, "system_a")
			}
		}
	}
}

// The greatest tree there is: nothing of it goes over.
func TestGreatTrees(t *testing.T) {
	s := newSlot(t)
	for _, block := range []int{64, 4096} {
		x := descr.Descr{Kind: 1, Name: "system", Alg: 1, Size: api.MaxSize, Block: block, Off: api.MaxSize, Digest: bytes.Repeat([]byte{7}, 32)}
		s.main(x)
		s.fails(api.ErrRange, "system_a")
	}
}

// Nothing of a tree is read: neither its bytes nor its data.
func TestTreesAreNotRead(t *testing.T) {
	s := newSlot(t)
	for sector := range room / 64 {
		s.d.Bad("system_a", sector, true)
	}
	s.main(treeOf("system", 512))
	s.finds(Finding{Indexes: []Index{{0, 0}}, Trees: []descr.Descr{treeOf("system", 512)}})
}

func TestTreeErrorsInTheirOrder(t *testing.T) {
	s := newSlot(t)
	s.main(treeOf("none", 1<<30))
	s.fails(api.ErrPart, "none_a")
	// A chained image's tree ahead of the first image's one, and behind it.
	for _, ahead := range []bool{true, false} {
		for _, fault := range []bool{true, false} {
			x, y := treeOf("vendor", 512), treeOf("vendor", 1024)
			if fault {
				y.Off = room
			}
			list := []descr.Descr{x, chainOf("vendor", 1, vendor)}
			inChain := y
			if ahead {
				list = []descr.Descr{chainOf("vendor", 1, vendor), y}
				inChain = x
			}
			s.main(list...)
			s.put("vendor_a", blob.Head{Alg: 1}, vendor, inChain)
			if fault {
				s.fails(api.ErrRange, "vendor_a")
			} else {
				s.fails(api.ErrTwice, "vendor_a")
			}
		}
	}
}

// P15.1: chains

func TestChainsBlobIsRefused(t *testing.T) {
	for _, x := range spoilings() {
		s := newSlot(t)
		s.main(lineOf("l"), chainOf("vendor", 1, vendor), spoilt(hashOf("boot", 1, 1, "")))
		e := x.do(s, "vendor_a", vendor)
		s.fails(e, "vendor_a")
	}
	s := newSlot(t)
	s.main(chainOf("none", 1, vendor))
	s.fails(api.ErrPart, "none_a")
	s.main(chainOf("least", 1, vendor))
	s.fails(api.ErrMagic, "least_a")
}

func TestChainKeys(t *testing.T) {
	s := newSlot(t)
	k := vendor.key()
	s.put("vendor_a", blob.Head{Alg: 1}, vendor)
	x := chainOf("vendor", 1, vendor)
	s.main(x)
	s.finds(Finding{Indexes: []Index{{0, 0}, {1, 0}}})
	for i := 0; i < len(k); i += 5 {
		x.Key = bytes.Clone(k)
		x.Key[i] ^= 1 << (i % 8)
		s.main(x)
		s.fails(api.ErrKey, "vendor_a")
	}
	for _, other := range [][]byte{k[:len(k)-1], append(bytes.Clone(k), 0), k[:1], root.key(), long.key(), bytes.Repeat([]byte{1}, 1032)} {
		x.Key = other
		s.main(x)
		s.fails(api.ErrKey, "vendor_a")
	}
	// A chain may be signed by the root key, if it is said so.
	s.put("vendor_a", blob.Head{Alg: 1}, root)
	s.main(chainOf("vendor", 1, root))
	s.finds(Finding{Indexes: []Index{{0, 0}, {1, 0}}})
}

// The location is the descriptor's, whatever the chained blob's own one is.
func TestChainIndexes(t *testing.T) {
	for _, location := range []int{1, 2, 31} {
		for _, own := range []int{0, location, 30} {
			s := newSlot(t)
			s.raise(location, 5)
			s.raise(30, 9)
			s.main(chainOf("vendor", location, vendor))
			s.put("vendor_a", blob.Head{Alg: 1, Index: 4, Location: own}, vendor)
			s.fails(api.ErrRollback, "vendor_a")
			for _, index := range []int{5, 6, api.MaxIndex} {
				s.put("vendor_a", blob.Head{Alg: 1, Index: index, Location: own}, vendor)
				s.finds(Finding{Indexes: []Index{{0, 0}, {location, index}}})
			}
		}
	}
}

func TestChainLocationsTwice(t *testing.T) {
	s := newSlot(t)
	s.put("vendor_a", blob.Head{Alg: 1, Index: 2}, vendor)
	s.put("radio_a", blob.Head{Alg: 1, Index: 3}, stranger)
	s.put("vbmeta_a", blob.Head{Alg: 1, Index: 1, Location: 6}, root, chainOf("vendor", 6, vendor))
	s.fails(api.ErrTwice, "vendor_a")
	s.put("vbmeta_a", blob.Head{Alg: 1, Index: 1, Location: 5}, root, chainOf("vendor", 6, vendor), chainOf("radio", 6, stranger))
	s.fails(api.ErrTwice, "radio_a")
	s.put("vbmeta_a", blob.Head{Alg: 1, Index: 1, Location: 5}, root, chainOf("vendor", 6, vendor), chainOf("radio", 5, stranger))
	s.fails(api.ErrTwice, "radio_a")
	s.put("vbmeta_a", blob.Head{Alg: 1, Index: 1, Location: 5}, root, chainOf("vendor", 6, vendor), chainOf("radio", 4, stranger))
	s.finds(Finding{Indexes: []Index{{5, 1}, {6, 2}, {4, 3}}})
}

func TestChainFlags(t *testing.T) {
	for _, ours := range []int{0, 1} {
		for flags := range 4 {
			s := newSlot(t)
			s.put("vbmeta_a", blob.Head{Alg: 1, Flags: ours}, root, chainOf("vendor", 1, vendor))
			s.put("vendor_a", blob.Head{Alg: 1, Flags: flags}, vendor)
			if flags == 0 {
				s.finds(Finding{Flags: ours, Indexes: []Index{{0, 0}, {1, 0}}})
			} else {
				s.fails(api.ErrForm, "vendor_a")
			}
		}
	}
}

func TestWhatAChainMaySay(t *testing.T) {
	s := newSlot(t)
	s.main(chainOf("vendor", 1, vendor))
	for _, x := range []descr.Descr{
		propertyOf("vendor"), propertyOf("boot"), propertyOf("none"), lineOf("l"), lineOf(""),
		hashOf("vendor", 1, 200, "s"), treeOf("vendor", 1000),
	} {
		s.put("vendor_a", blob.Head{Alg: 1}, vendor, x)
		want := Finding{Indexes: []Index{{0, 0}, {1, 0}}}
		if x.Kind == 1 {
			want.Trees = []descr.Descr{x}
		}
		if x.Kind == 3 {
			want.Lines = [][]byte{x.Value}
		}
		s.finds(want)
	}
	for _, x := range []descr.Descr{
		hashOf("boot", 1, 200, "s"), spoilt(hashOf("boot", 1, 200, "s")), hashOf("none", 1, 0, ""), hashOf("vendor_a", 1, 0, ""), hashOf("vbmeta", 1, 0, ""), hashOf("vendo", 1, 0, ""),
		treeOf("system", 512), treeOf("none", 512), treeOf("vendors", 512), treeOf("system", room),
		chainOf("radio", 2, stranger), chainOf("none", 2, stranger), chainOf("vendor", 2, vendor), chainOf("vbmeta", 2, root), chainOf("radio", 1, stranger),
	} {
		s.put("vendor_a", blob.Head{Alg: 1}, vendor, x)
		s.fails(api.ErrChain, "vendor_a")
	}
}

// What a chain may say is asked as what the first image says is.
func TestWhatAChainSaysIsAsked(t *testing.T) {
	s := newSlot(t)
	s.main(chainOf("vendor", 1, vendor))
	s.put("vendor_a", blob.Head{Alg: 1}, vendor, spoilt(hashOf("vendor", 1, 200, "s")))
	s.fails(api.ErrDigest, "vendor_a")
	x := hashOf("vendor", 1, 200, "s")
	x.Size = room + 1
	s.put("vendor_a", blob.Head{Alg: 1}, vendor, x)
	s.fails(api.ErrEnd, "vendor_a")
	s.put("vendor_a", blob.Head{Alg: 1}, vendor, hashOf("vendor", 1, 200, "s"))
	s.d.Bad("vendor_a", 3, true)
	s.fails(api.ErrRead, "vendor_a")
	s.put("vendor_a", blob.Head{Alg: 1}, vendor, treeOf("vendor", room))
	s.fails(api.ErrRange, "vendor_a")
}

func TestChainErrorsInTheirOrder(t *testing.T) {
	s := newSlot(t)
	s.raise(2, 5)
	s.put("vbmeta_a", blob.Head{Alg: 1, Index: 9, Location: 2}, root, chainOf("vendor", 2, vendor))
	stray := chainOf("radio", 2, stranger)
	s.put("vendor_a", blob.Head{Index: 4, Flags: 1}, stranger, stray)
	s.fails(api.ErrSign, "vendor_a")
	s.put("vendor_a", blob.Head{Alg: 1, Index: 4, Flags: 1}, stranger, stray)
	s.fails(api.ErrKey, "vendor_a")
	s.put("vendor_a", blob.Head{Alg: 1, Index: 4, Flags: 1}, vendor, stray)
	s.fails(api.ErrRollback, "vendor_a")
	s.put("vendor_a", blob.Head{Alg: 1, Index: 5, Flags: 1}, vendor, stray)
	s.fails(api.ErrTwice, "vendor_a")
	s.put("vbmeta_a", blob.Head{Alg: 1, Index: 9, Location: 1}, root, chainOf("vendor", 2, vendor))
	s.fails(api.ErrForm, "vendor_a")
	s.put("vendor_a", blob.Head{Alg: 1, Index: 5}, vendor, stray)
	s.fails(api.ErrChain, "vendor_a")
}

// Within a chained image the first descriptor that is refused is told.
func TestChainsDescriptorsInTheirOrder(t *testing.T) {
	s := newSlot(t)
	s.main(chainOf("vendor", 1, vendor))
	wrong, stray := spoilt(hashOf("vendor", 1, 9, "")), treeOf("system", 512)
	s.put("vendor_a", blob.Head{Alg: 1}, vendor, lineOf("l"), wrong, stray)
	s.fails(api.ErrDigest, "vendor_a")
	s.put("vendor_a", blob.Head{Alg: 1}, vendor, lineOf("l"), stray, wrong)
	s.fails(api.ErrChain, "vendor_a")
	s.put("vendor_a", blob.Head{Alg: 1}, vendor, treeOf("vendor", room), wrong)
	s.fails(api.ErrRange, "vendor_a")
	s.put("vendor_a", blob.Head{Alg: 1}, vendor, wrong, treeOf("vendor", room))
	s.fails(api.ErrDigest, "vendor_a")
}

// Of two descriptors that are refused, the first one is told.
func TestDescriptorsInTheirOrder(t *testing.T) {
	want := func(x descr.Descr) Finding {
		s := newSlot(t)
		s.main(x)
		return Verify(s.d, s.v, "_a")
	}
	for _, x := range wrongs() {
		for _, y := range wrongs() {
			if x.Kind == y.Kind && x.Name == y.Name {
				continue
			}
			s := newSlot(t)
			s.main(lineOf("l"), x, treeOf("boot", 512), y)
			s.finds(want(x))
		}
	}
}

// A chain may come ahead of what it stands beside, and its errors then too.
func TestChainsComeWhereTheyStand(t *testing.T) {
	s := newSlot(t)
	s.put("vendor_a", blob.Head{Alg: 1, Flags: 2}, vendor)
	wrong := spoilt(hashOf("boot", 1, 9, ""))
	s.main(chainOf("vendor", 1, vendor), wrong)
	s.fails(api.ErrForm, "vendor_a")
	s.main(wrong, chainOf("vendor", 1, vendor))
	s.fails(api.ErrDigest, "boot_a")
}

// An image that names its own partition as a chained one has a chain in a
// chain.
func TestChainToItself(t *testing.T) {
	s := newSlot(t)
	self := chainOf("vbmeta", 1, root)
	s.main(lineOf("l"), self, hashOf("boot", 1, 9, ""))
	s.fails(api.ErrChain, "vbmeta_a")
	s.main(self)
	s.fails(api.ErrChain, "vbmeta_a")
	s.main(chainOf("vbmeta", 1, vendor))
	s.fails(api.ErrKey, "vbmeta_a")
	s.put("vbmeta_a", blob.Head{Alg: 1, Location: 1}, root, self)
	s.fails(api.ErrTwice, "vbmeta_a")
	s.put("vbmeta_a", blob.Head{Alg: 1, Flags: 1}, root, self)
	s.fails(api.ErrForm, "vbmeta_a")
	s.main(treeOf("vbmeta", 512), self)
	s.fails(api.ErrTwice, "vbmeta_a")
	s.raise(1, 1)
	s.fails(api.ErrRollback, "vbmeta_a")
}

// P15.1: what is done to the drive and the vault

// state is all that a drive and a vault tell, but for what was read.
func (s *slot) state() string {
	var b strings.Builder
	for _, p := range s.d.Parts() {
		for at := 0; at < p.Size; at += 64 {
			part, e := s.d.Read(p.Name, at, 64)
			fmt.Fprintln(&b, p, at, part, e)
		}
	}
	fmt.Fprintln(&b, s.d.Down(), s.v.Down(), s.v.Changes(), s.v.Locked(), s.v.Root())
	for i := range api.Locations {
		index, e := s.v.Index(i)
		fmt.Fprintln(&b, index, e)
	}
	return b.String()
}

func TestNothingIsWritten(t *testing.T) {
	s := whole(t)
	s.raise(2, 3)
	for _, bad := range []bool{false, true} {
		s.d.Bad("radio_a", dataSize/64, bad)
		before := s.state()
		// The next write, or change, would be the last one.
		s.d.Arm(0, []bool{true, true})
		s.v.Arm(0, true)
		f := Verify(s.d, s.v, "_a")
		if (f.Code == api.OK) == bad || s.state() != before {
			t.Fatal(told(f))
		}
		if e := s.d.Write("boot_a", 0, []byte{dataOf("boot_a")[0]}); e != api.ErrDown {
			t.Fatal(e)
		}
		if e := s.v.Raise(2, 3); e != api.ErrDown {
			t.Fatal(e)
		}
		s.d.Boot()
		s.v.Boot()
	}
}

// reads is how often, and how much, slot a is read.
func (s *slot) reads() (count int, size int) {
	n, m := s.d.Reads()
	Verify(s.d, s.v, "_a")
	count, size = s.d.Reads()
	return count - n, size - m
}

// reading checks what is read of slot a: so many tails and hashes, and blobs.
func (s *slot) reading(count int, size int) {
	s.t.Helper()
	if n, m := s.reads(); n != count || m != size {
		s.t.Fatalf("%d reads of %d bytes, not %d of %d", n, m, count, size)
	}
}

// sizeOf is how long a partition's blob is.
func (s *slot) sizeOf(name string) int {
	raw, _, e := tail.Load(s.d, name)
	if e != api.OK {
		s.t.Fatal(name, e)
	}
	return len(raw)
}

func TestEachIsReadOnce(t *testing.T) {
	s := whole(t)
	first, second, third := s.sizeOf("vbmeta_a"), s.sizeOf("vendor_a"), s.sizeOf("radio_a")
	s.reading(9, 3*64+first+second+third+100+256+17)
	// Nothing is read behind the first error.
	s.d.Turn("boot_a", 0, []byte{1})
	s.reading(6, 2*64+first+second+100+17)
	s.v.Raise(9, 7)
	s.reading(4, 2*64+first+second)
	s.v.Raise(2, 5)
	s.reading(2, 64+first)
	s.d.Turn("vbmeta_a", room-64, []byte{1})
	s.reading(1, 64)
}

func TestNothingIsReadThatIsNotVerified(t *testing.T) {
	s := whole(t)
	s.put("vbmeta_a", blob.Head{Alg: 1, Flags: 2}, root, chainOf("vendor", 9, vendor), hashOf("boot", 1, 100, "s"))
	s.reading(2, 64+s.sizeOf("vbmeta_a"))
	s.main(treeOf("system", 512), lineOf("l"), propertyOf("boot"))
	s.reading(2, 64+s.sizeOf("vbmeta_a"))
	// What an image chains to is read ahead of what else it says, in order.
	s.main(hashOf("boot", 1, 100, "s"), chainOf("vendor", 9, vendor), hashOf("system", 1, 1, ""))
	s.put("vendor_a", blob.Head{Alg: 1}, vendor, treeOf("system", 512))
	s.reading(5, 64+s.sizeOf("vbmeta_a")+100+64+s.sizeOf("vendor_a"))
}

// A blob is loaded once, though it is chained to as well.
func TestChainToItselfIsReadOnce(t *testing.T) {
	s := newSlot(t)
	s.main(chainOf("vbmeta", 1, root))
	s.reading(2, 64+s.sizeOf("vbmeta_a"))
}

// P15.2

func TestAt(t *testing.T) {
	f := Finding{Indexes: []Index{{3, 7}, {0, 5}, {3, 8}, {31, 0}, {math.MaxInt, 1}, {math.MinInt, 2}, {-1, -9}}}
	for _, x := range []Index{{3, 7}, {0, 5}, {31, 0}, {math.MaxInt, 1}, {math.MinInt, 2}, {-1, -9}} {
		if n, ok := f.At(x.Location); n != x.Index || !ok {
			t.Fatal(x, n, ok)
		}
	}
	for _, location := range []int{1, 2, 4, 5, 7, 8, 30, 32, -2, -3, 1 << 40, math.MaxInt - 1, math.MinInt + 1} {
		if n, ok := f.At(location); n != 0 || ok {
			t.Fatal(location, n, ok)
		}
	}
}

func TestAtOfNothing(t *testing.T) {
	for _, f := range []Finding{{}, {Indexes: []Index{}}, {Code: api.ErrRoot, Where: "vbmeta_a"}} {
		for location := -1; location < 33; location++ {
			if n, ok := f.At(location); n != 0 || ok {
				t.Fatal(f, location, n, ok)
			}
		}
	}
	// A finding says what it says, whatever else it has.
	if n, ok := (Finding{Code: api.ErrRoot, Indexes: []Index{{1, 2}}}).At(1); n != 2 || !ok {
		t.Fatal(n, ok)
	}
}

func TestAtOfWhatIsFound(t *testing.T) {
	s := whole(t)
	f := Verify(s.d, s.v, "_a")
	for location := range api.Locations {
		want, there := map[int]int{2: 4, 9: 6, 1: 8}[location]
		if n, ok := f.At(location); n != want || ok != there {
			t.Fatal(location, n, ok)
		}
	}
}

// A model

// stop is how the model ends at an error.
type stop struct {
	code  api.Errno
	where string
}

// model verifies as the document's words go, one question after another.
type model struct {
	*slot
	f Finding
}

// ask goes on, if there is no error.
func (m *model) ask(where string, e api.Errno) {
	if e != api.OK {
		panic(stop{e, where})
	}
}

// unless goes on, if something isn't so.
func (m *model) unless(wrong bool, where string, e api.Errno) {
	if wrong {
		m.ask(where, e)
	}
}

func (m *model) blob(where string) blob.Blob {
	raw, _, e := tail.Load(m.d, where)
	m.ask(where, e)
	b, e := blob.Check(raw)
	m.ask(where, e)
	return b
}

func (m *model) below(location int, index int) bool {
	least, e := m.v.Index(location)
	return e != api.OK || index < least
}

func (m *model) say(x descr.Descr, name string, inChain bool) {
	at := x.Name + "_a"
	if inChain {
		foreign := (x.Kind == 1 || x.Kind == 2) && x.Name != name
		m.unless(foreign || x.Kind == 4, name+"_a", api.ErrChain)
	}
	switch x.Kind {
	case 1:
		if m.f.Flags == 1 {
			return
		}
		size, e := m.d.Size(at)
		m.ask(at, e)
		m.unless(x.Off+totalOf(x.Size, x.Block, 32*x.Alg) > size, at, api.ErrRange)
		for _, other := range m.f.Trees {
			m.unless(other.Name == x.Name, at, api.ErrTwice)
		}
		m.f.Trees = append(m.f.Trees, x)
	case 2:
		b, e := m.d.Read(at, 0, x.Size)
		m.ask(at, e)
		m.unless(!bytes.Equal(sumOf(x.Alg, x.Salt, b), x.Digest), at, api.ErrDigest)
	case 3:
		m.f.Lines = append(m.f.Lines, x.Value)
	case 4:
		b := m.blob(at)
		m.unless(!bytes.Equal(b.Key, x.Key), at, api.ErrKey)
		m.unless(m.below(x.Location, b.Index), at, api.ErrRollback)
		for _, other := range m.f.Indexes {
			m.unless(other.Location == x.Location, at, api.ErrTwice)
		}
		m.f.Indexes = append(m.f.Indexes, Index{x.Location, b.Index})
		m.unless(b.Flags != 0, at, api.ErrForm)
		for _, y := range b.Descr {
			m.say(y, x.Name, true)
		}
	}
}

// modelVerify is what is to be found of slot a.
func modelVerify(s *slot) (f Finding) {
	defer func() {
		if at, ok := recover().(stop); ok {
			f = Finding{Code: at.code, Where: at.where}
		}
	}()
	m := &model{slot: s}
	b := m.blob("vbmeta_a")
	m.unless(!bytes.Equal(sumOf(1, b.Key), m.v.Root()), "vbmeta_a", api.ErrRoot)
	m.unless(m.below(b.Location, b.Index), "vbmeta_a", api.ErrRollback)
	m.f.Flags, m.f.Indexes = b.Flags, []Index{{b.Location, b.Index}}
	if b.Flags < 2 {
		for _, x := range b.Descr {
			m.say(x, "", false)
		}
	}
	return m.f
}

func one[T any](r *rand.Rand, of ...T) T { return of[r.Intn(len(of))] }

// rarely is true once in so many times.
func rarely(r *rand.Rand, times int) bool { return r.Intn(times) == 0 }

// signerOf is who is to sign a partition's image.
func signerOf(r *rand.Rand, name string) owner {
	if rarely(r, 25) {
		return one(r, root, vendor, stranger)
	}
	switch name {
	case "vbmeta":
		return root
	case "vendor":
		return vendor
	}
	return stranger
}

// someDescr is a descriptor that is often right, where a partition's image may
// say it.
func someDescr(r *rand.Rand, of string) descr.Descr {
	name := one(r, "boot", "system", "vendor", "radio")
	if of != "vbmeta" && !rarely(r, 10) {
		name = of
	}
	if rarely(r, 25) {
		name = one(r, "none", "vbmeta", "least")
	}
	kind := r.Intn(5)
	if of != "vbmeta" && kind == 4 && !rarely(r, 10) {
		kind = 3
	}
	switch kind {
	case 1:
		x := treeOf(name, one(r, 300, 512, room-treeSize))
		x.Size, x.Block = 1+r.Intn(300), one(r, 64, 128)
		if rarely(r, 10) {
			x.Off = room - r.Intn(treeSize)
		}
		return x
	case 2:
		x := hashOf(name, one(r, 1, 2), r.Intn(dataSize+1), one(r, "", "salt"))
		if rarely(r, 15) {
			x.Digest[r.Intn(32)] ^= 1
		}
		if rarely(r, 15) {
			x.Size = one(r, room, room+1, api.MaxSize)
		}
		return x
	case 3:
		return lineOf(one(r, "", "a", "bc"))
	case 4:
		name = one(r, "vendor", "radio")
		if rarely(r, 15) {
			name = one(r, "none", "vbmeta", "boot")
		}
		return chainOf(name, 1+r.Intn(6), signerOf(r, name))
	}
	return propertyOf(name)
}

// someList is what a partition's image says.
func someList(r *rand.Rand, of string) []descr.Descr {
	var list []descr.Descr
	for range r.Intn(5) {
		more := append(list, someDescr(r, of))
		if _, e := descr.Encode(more); e == api.OK {
			list = more
		}
	}
	return list
}

// fill puts an image on a partition of slot a.
func (s *slot) fill(r *rand.Rand, name string) {
	h := blob.Head{Alg: 1, Index: 1 + r.Intn(4), Location: r.Intn(4)}
	if rarely(r, 20) {
		h.Alg = 0
	}
	if rarely(r, 8) || name == "vbmeta" && rarely(r, 4) {
		h.Flags = one(r, 1, 1, 1, 2, 3)
	}
	s.put(name+"_a", h, signerOf(r, name), someList(r, name)...)
}

// harm does something to the drive, or nothing.
func (s *slot) harm(r *rand.Rand) {
	name := one(r, "vbmeta_a", "vendor_a", "radio_a", "boot_a", "system_a")
	switch r.Intn(8) {
	case 0:
		s.d.Turn(name, r.Intn(room), []byte{1 << r.Intn(8)})
	case 1:
		s.d.Bad(name, one(r, 0, 3, 4, 63), true)
	case 2:
		s.raise(r.Intn(4), 2+r.Intn(2))
	}
}

func TestAgainstTheModel(t *testing.T) {
	r := rand.New(rand.NewSource(15))
	seen := map[api.Errno]int{}
	for range 2500 {
		s := newSlot(t)
		for _, name := range []string{"vbmeta", "vendor", "radio"} {
			s.fill(r, name)
		}
		s.harm(r)
		want := modelVerify(s)
		seen[want.Code]++
		s.finds(want)
	}
	for _, e := range []api.Errno{
		api.OK, api.ErrMagic, api.ErrSign, api.ErrRoot, api.ErrRollback, api.ErrRead, api.ErrEnd, api.ErrDigest,
		api.ErrPart, api.ErrRange, api.ErrTwice, api.ErrKey, api.ErrForm, api.ErrChain,
	} {
		if seen[e] < 3 {
			t.Errorf("%d came %d times: %v", e, seen[e], seen)
		}
	}
}

// The rule of memory

// bytesOf are all lists of bytes in a finding.
func bytesOf(f Finding) [][]byte {
	all := slices.Clone(f.Lines)
	for _, x := range f.Trees {
		all = append(all, x.Salt, x.Digest, x.Key, x.Value)
	}
	return all
}

// spoil writes over bytes and all of their spare room.
func spoil(b []byte) {
	b = b[:cap(b)]
	for i := range b {
		b[i] = 0xdd
	}
}

// spoilLists writes over the lists in a finding, and their spare room.
func spoilLists(f Finding) {
	indexes, trees, lines := f.Indexes[:cap(f.Indexes)], f.Trees[:cap(f.Trees)], f.Lines[:cap(f.Lines)]
	for i := range indexes {
		indexes[i] = Index{-1, -1}
	}
	for i := range trees {
		trees[i] = descr.Descr{Name: "spoilt"}
	}
	for i := range lines {
		lines[i] = []byte("spoilt")
	}
}

// Each list of an answer is its own.
func TestListsOfAnAnswerShareNothing(t *testing.T) {
	s := whole(t)
	for i := range bytesOf(Verify(s.d, s.v, "_a")) {
		f := Verify(s.d, s.v, "_a")
		before := make([][]byte, 0)
		for _, b := range bytesOf(f) {
			before = append(before, bytes.Clone(b))
		}
		spoil(bytesOf(f)[i])
		for j, b := range bytesOf(f) {
			if i != j && !bytes.Equal(b, before[j]) {
				t.Fatal(i, j)
			}
		}
	}
}

func TestAnswersShareNothing(t *testing.T) {
	s := whole(t)
	before := s.state()
	f, g := Verify(s.d, s.v, "_a"), Verify(s.d, s.v, "_a")
	for _, b := range bytesOf(f) {
		spoil(b)
	}
	spoilLists(f)
	if told(g) != told(wholeFinding()) || s.state() != before {
		t.Fatal(told(g))
	}
	s.finds(wholeFinding())
}

// A finding stays as it is, whatever becomes of the drive and the vault.
func TestAnAnswerIsKeptByNobody(t *testing.T) {
	s := whole(t)
	f := Verify(s.d, s.v, "_a")
	for _, p := range s.d.Parts() {
		s.d.Write(p.Name, 0, bytes.Repeat([]byte{0xcc}, p.Size))
	}
	s.raise(2, 100)
	s.fails(api.ErrMagic, "vbmeta_a")
	if told(f) != told(wholeFinding()) {
		t.Fatal(told(f))
	}
}

func TestAtLeavesTheFinding(t *testing.T) {
	spare := append(make([]Index, 0, 8), Index{1, 2}, Index{3, 4})
	f := Finding{Flags: 1, Indexes: spare, Lines: [][]byte{[]byte("l")}}
	before := told(f)
	f.At(3)
	f.At(9)
	if told(f) != before || slices.ContainsFunc(spare[2:8], func(x Index) bool { return x != Index{} }) {
		t.Fatal(told(f))
	}
}
