package device_test

import (
	"fmt"
	"math"
	"math/rand"
	"slices"
	"strings"
	"testing"
	"unsafe"

	"storagebarter/api"
	"storagebarter/device"
)

// extremes returns numbers far from all that is permitted, also some that have the lower bits of such ones.
func extremes() []int {
	return []int{-16, -64, -512, 1 << 31, 1 << 32, 1<<32 + 1, 1<<32 + 16, 1<<62 + 1, -1 << 32, math.MinInt, math.MinInt + 1, math.MinInt + 16, math.MaxInt - 1, math.MaxInt}
}

// sizes returns the sizes that blocks may have.
func sizes() []int {
	var l []int
	for n := 16; n <= 64; n++ {
		l = append(l, n)
	}
	return l
}

// noSizes returns sizes that no block may have.
func noSizes() []int {
	return append([]int{15, 14, 8, 1, 0, -1, -15, 65, 66, 128, 512}, extremes()...)
}

// noCounts returns numbers of blocks that no device may have.
func noCounts() []int {
	return append([]int{0, -1, -2, 513, 514, 1024, 1 << 16}, extremes()...)
}

// empty returns a device of empty blocks, to which nothing has happened.
func empty(size, blocks int) api.Device {
	return api.Device{Size: size, Blocks: make([]string, blocks)}
}

// of returns a device with these texts in blocks of 16 bytes.
func of(texts ...string) api.Device {
	return api.Device{Size: 16, Blocks: texts}
}

// full returns a device with different texts in all its blocks.
func full(size, blocks int) api.Device {
	d := empty(size, blocks)
	for n := range d.Blocks {
		d.Blocks[n] = fmt.Sprint(n, strings.Repeat("x", size-len(fmt.Sprint(n))))
	}
	return d
}

// marked returns a device with these torn and bad blocks, which become empty.
func marked(d api.Device, torn, bad []int) api.Device {
	d.Blocks = slices.Clone(d.Blocks)
	for _, n := range append(slices.Clone(torn), bad...) {
		if n >= 0 && n < len(d.Blocks) {
			d.Blocks[n] = ""
		}
	}
	d.Torn, d.Bad = slices.Clone(torn), slices.Clone(bad)
	return d
}

// armed returns a device with a fuse.
func armed(d api.Device, fuse int) api.Device {
	d.Fuse = fuse
	return d
}

// down returns a device that is down.
func down(d api.Device) api.Device {
	d.Down = true
	return d
}

// put returns a device with another text in a block.
func put(d api.Device, n int, s string) api.Device {
	d.Blocks = slices.Clone(d.Blocks)
	d.Blocks[n] = s
	return d
}

// even returns the even numbers below n.
func even(n int) []int {
	var l []int
	for i := 0; i < n; i += 2 {
		l = append(l, i)
	}
	return l
}

// upTo returns the numbers below n.
func upTo(n int) []int {
	var l []int
	for i := range n {
		l = append(l, i)
	}
	return l
}

// rights returns devices that are valid: at the limits, and between them.
func rights() []api.Device {
	var l []api.Device
	for _, size := range []int{16, 17, 40, 63, 64} {
		for _, n := range []int{1, 2, 3, 100, 511, 512} {
			last := []int{n - 1}
			l = append(l, empty(size, n), full(size, n), down(full(size, n)), marked(full(size, n), last, nil), marked(full(size, n), nil, last), marked(full(size, n), last, last), marked(full(size, n), []int{0}, last), marked(full(size, n), last, []int{0}), marked(full(size, n), even(n), even(n)), marked(full(size, n), upTo(n), nil), marked(full(size, n), even(n), upTo(n)), marked(full(size, n), nil, upTo(n)))
		}
	}
	for _, fuse := range []int{0, 1, 2, 3, 1 << 19, api.MaxTick - 1, api.MaxTick} {
		l = append(l, armed(full(16, 3), fuse), down(armed(full(16, 3), fuse)), armed(marked(full(64, 512), even(512), nil), fuse))
	}
	return l
}

// wrongNumbers returns lists that neither Torn nor Bad may be in a device of three empty blocks.
func wrongNumbers() [][]int {
	l := [][]int{{-1}, {3}, {4}, {0, 3}, {-1, 0}, {2, 3}, {1, 0}, {2, 1}, {2, 0}, {0, 2, 1}, {1, 0, 2}, {2, 1, 0}, {0, 0}, {1, 1}, {2, 2}, {0, 1, 1}, {0, 0, 1}, {0, 1, 2, 2}, {0, 1, 2, 3}, {0, 1, 2, 0}, {0, -1}, {2, -1}, make([]int, 100000)}
	for _, n := range extremes() {
		l = append(l, []int{n}, []int{0, n}, []int{n, 2}, []int{0, n, 2})
	}
	return l
}

// wrongs returns devices that are not valid, in each way.
func wrongs() []api.Device {
	l := []api.Device{{}, {Size: 16}, {Size: 16, Blocks: []string{}}, {Blocks: []string{""}}}
	for _, size := range noSizes() {
		l = append(l, empty(size, 1), empty(size, 512))
	}
	for _, n := range []int{0, 513, 514, 1024, 100000} {
		l = append(l, empty(16, n), empty(64, n))
	}
	for _, size := range []int{16, 17, 40, 63, 64} {
		for _, at := range []int{0, 1, 2, 510, 511} {
			for _, n := range []int{size + 1, size + 2, 2 * size, 256 + size, 1 << 16} {
				l = append(l, put(full(size, 512), at, strings.Repeat("x", n)))
			}
		}
	}
	for _, numbers := range wrongNumbers() {
		l = append(l, marked(empty(16, 3), numbers, nil), marked(empty(16, 3), nil, numbers), marked(empty(16, 3), numbers, numbers), marked(empty(16, 3), []int{0, 1, 2}, numbers), marked(empty(16, 3), numbers, []int{0, 1, 2}))
	}
	for _, at := range []int{0, 1, 100, 510, 511} {
		l = append(l, put(marked(full(64, 512), []int{at}, nil), at, "x"), put(marked(full(64, 512), nil, []int{at}), at, "x"), put(marked(full(64, 512), upTo(512), nil), at, "\x00"), put(marked(full(64, 512), nil, upTo(512)), at, "\x00"))
	}
	for _, fuse := range append([]int{-1, -2, -api.MaxTick, api.MaxTick + 1, api.MaxTick + 2, 2 * api.MaxTick}, extremes()...) {
		l = append(l, armed(full(16, 3), fuse), down(armed(full(16, 3), fuse)))
	}
	return l
}

// show returns a device without most of its blocks.
func show(d api.Device) string {
	return fmt.Sprintf("{%d %d blocks: %.20q torn %v bad %v fuse %d down %v}", d.Size, len(d.Blocks), d.Blocks[:min(5, len(d.Blocks))], d.Torn[:min(9, len(d.Torn))], d.Bad[:min(9, len(d.Bad))], d.Fuse, d.Down)
}

func same(a, b api.Device) bool {
	if a.Size != b.Size || a.Fuse != b.Fuse || a.Down != b.Down {
		return false
	}
	return slices.Equal(a.Blocks, b.Blocks) && slices.Equal(a.Torn, b.Torn) && slices.Equal(a.Bad, b.Bad)
}

// clone returns the same device in new memory.
func clone(d api.Device) api.Device {
	d.Blocks, d.Torn, d.Bad = slices.Clone(d.Blocks), slices.Clone(d.Torn), slices.Clone(d.Bad)
	return d
}

func wantNew(t *testing.T, size, blocks int, want api.Device, e api.Errno) {
	t.Helper()
	if got, gotE := device.New(size, blocks); !same(got, want) || gotE != e {
		t.Errorf("New(%d, %d) = %s, %d, want %s, %d", size, blocks, show(got), gotE, show(want), e)
	}
}

func wantCheck(t *testing.T, d api.Device, e api.Errno) {
	t.Helper()
	if got := device.Check(d); got != e {
		t.Errorf("Check(%s) = %d, want %d", show(d), got, e)
	}
}

func wantRead(t *testing.T, d api.Device, n int, s string, e api.Errno) {
	t.Helper()
	if got, gotE := device.Read(d, n); got != s || gotE != e {
		t.Errorf("Read(%s, %d) = %q, %d, want %q, %d", show(d), n, got, gotE, s, e)
	}
}

func wantWrite(t *testing.T, d api.Device, n int, s string, want api.Device, e api.Errno) {
	t.Helper()
	if got, gotE := device.Write(d, n, s); !same(got, want) || gotE != e {
		t.Errorf("Write(%s, %d, %.40q) = %s, %d, want %s, %d", show(d), n, s, show(got), gotE, show(want), e)
	}
}

func wantArm(t *testing.T, d api.Device, fuse int, want api.Device, e api.Errno) {
	t.Helper()
	if got, gotE := device.Arm(d, fuse); !same(got, want) || gotE != e {
		t.Errorf("Arm(%s, %d) = %s, %d, want %s, %d", show(d), fuse, show(got), gotE, show(want), e)
	}
}

func wantStart(t *testing.T, d api.Device, want api.Device, e api.Errno) {
	t.Helper()
	if got, gotE := device.Start(d); !same(got, want) || gotE != e {
		t.Errorf("Start(%s) = %s, %d, want %s, %d", show(d), show(got), gotE, show(want), e)
	}
}

func wantFail(t *testing.T, d api.Device, n int, want api.Device, e api.Errno) {
	t.Helper()
	if got, gotE := device.Fail(d, n); !same(got, want) || gotE != e {
		t.Errorf("Fail(%s, %d) = %s, %d, want %s, %d", show(d), n, show(got), gotE, show(want), e)
	}
}

func wantSame(t *testing.T, a, b api.Device, want bool) {
	t.Helper()
	if device.Same(a, b) != want || device.Same(b, a) != want {
		t.Errorf("Same(%s, %s), or the other way round, is not %v", show(a), show(b), want)
	}
}

// P10.1: each size, and each number of blocks.
func TestNew(t *testing.T) {
	for _, size := range sizes() {
		for _, n := range []int{1, 2, 3, 64, 511, 512} {
			wantNew(t, size, n, empty(size, n), api.OK)
		}
	}
	for n := 1; n <= 512; n++ {
		for _, size := range []int{16, 64} {
			wantNew(t, size, n, empty(size, n), api.OK)
		}
	}
}

// P10.1: sizes and numbers of blocks that are out of range, one of them or both.
func TestNewOutOfRange(t *testing.T) {
	for _, size := range noSizes() {
		for _, n := range append([]int{1, 2, 16, 64, 511, 512}, noCounts()...) {
			wantNew(t, size, n, api.Device{}, api.ErrRange)
		}
	}
	for _, n := range noCounts() {
		for _, size := range sizes() {
			wantNew(t, size, n, api.Device{}, api.ErrRange)
		}
	}
}

// P10.1: devices at the limits and between them, new ones too.
func TestCheck(t *testing.T) {
	for _, d := range rights() {
		wantCheck(t, d, api.OK)
	}
	for _, size := range sizes() {
		d, _ := device.New(size, 7)
		wantCheck(t, d, api.OK)
	}
}

// P10.1: devices that are not valid, in each way.
func TestCheckOfWrongDevices(t *testing.T) {
	for _, d := range wrongs() {
		wantCheck(t, d, api.ErrForm)
	}
}

// P10.1: blocks are as long as the size of their own device, at any place.
func TestCheckOfLengths(t *testing.T) {
	for _, size := range sizes() {
		for n := range 70 {
			e := api.OK
			if n > size {
				e = api.ErrForm
			}
			for _, at := range []int{0, 1, 2} {
				wantCheck(t, put(empty(size, 3), at, strings.Repeat("\xff", n)), e)
			}
		}
	}
}

// ascendingAndEmpty is the definition of what Torn and Bad are: the numbers of empty blocks, each greater than all before.
func ascendingAndEmpty(l []int, blocks []string) bool {
	for i, n := range l {
		for _, before := range l[:i] {
			if before >= n {
				return false
			}
		}
		if n < 0 || n >= len(blocks) || len(blocks[n]) > 0 {
			return false
		}
	}
	return true
}

// sequences returns all lists of at most n numbers from -1 to 3.
func sequences(n int) [][]int {
	l := [][]int{nil}
	for at := 0; len(l[at]) < n; at++ {
		for x := -1; x <= 3; x++ {
			l = append(l, append(slices.Clone(l[at]), x))
		}
	}
	return l
}

// P10.1: all short lists as Torn, and as Bad, of small devices whose blocks are empty, or not.
func TestCheckOfNumbers(t *testing.T) {
	for _, blocks := range [][]string{{""}, {"", ""}, {"", "", ""}, {"x", "", ""}, {"", "x", ""}, {"", "", "x"}, {"x", "", "x"}, {"x", "x", "x"}} {
		for _, l := range sequences(4) {
			e := api.ErrForm
			if ascendingAndEmpty(l, blocks) {
				e = api.OK
			}
			wantCheck(t, api.Device{Size: 16, Blocks: blocks, Torn: l}, e)
			wantCheck(t, api.Device{Size: 16, Blocks: blocks, Bad: l}, e)
			wantCheck(t, api.Device{Size: 16, Blocks: blocks, Torn: l, Bad: l}, e)
		}
	}
}

// others returns devices that differ from one in one field each.
func others(d api.Device) []api.Device {
	size, fuse, isDown := clone(d), clone(d), clone(d)
	size.Size++
	fuse.Fuse++
	isDown.Down = !d.Down
	more, torn, bad := clone(d), clone(d), clone(d)
	more.Blocks = append(more.Blocks, "")
	torn.Torn = append(torn.Torn, len(d.Blocks))
	bad.Bad = append(bad.Bad, len(d.Blocks))
	l := []api.Device{size, fuse, isDown, more, torn, bad}
	for _, at := range []int{0, len(d.Blocks) / 2, len(d.Blocks) - 1} {
		if len(d.Blocks) > 0 {
			l = append(l, put(d, at, d.Blocks[at]+"\x00"))
		}
	}
	if len(d.Torn) > 0 {
		less, other := clone(d), clone(d)
		less.Torn = less.Torn[1:]
		other.Torn[len(d.Torn)-1]++
		l = append(l, less, other)
	}
	if len(d.Bad) > 0 {
		less, other := clone(d), clone(d)
		less.Bad = less.Bad[1:]
		other.Bad[len(d.Bad)-1]++
		l = append(l, less, other)
	}
	return l
}

// P10.1: a device is equal to itself, nil and an empty slice are one, and each field counts.
func TestSame(t *testing.T) {
	wantSame(t, api.Device{}, api.Device{Blocks: []string{}, Torn: []int{}, Bad: []int{}}, true)
	wantSame(t, of(""), api.Device{Size: 16, Blocks: []string{""}, Torn: []int{}, Bad: []int{}}, true)
	for _, d := range rights() {
		wantSame(t, d, clone(d), true)
		for _, o := range others(d) {
			wantSame(t, d, o, false)
		}
	}
	wantSame(t, marked(of("", ""), []int{0}, []int{1}), marked(of("", ""), []int{1}, []int{0}), false)
	wantSame(t, marked(of("", ""), []int{0}, nil), marked(of("", ""), nil, []int{0}), false)
	wantSame(t, of("a", "b"), of("b", "a"), false)
	wantSame(t, of("a", "", "b"), of("a", "b", ""), false)
	wantSame(t, of("ab", "c"), of("a", "bc"), false)
}

// P10.1: devices that are not valid are compared as they are.
func TestSameOfWrongDevices(t *testing.T) {
	for _, d := range wrongs() {
		wantSame(t, d, clone(d), true)
		for _, o := range others(d) {
			wantSame(t, d, o, false)
		}
	}
	wantSame(t, marked(of("", ""), []int{0, 1}, nil), marked(of("", ""), []int{1, 0}, nil), false)
	wantSame(t, marked(of("", ""), nil, []int{0, 0}), marked(of("", ""), nil, []int{0}), false)
}

// P10.2: the first block, the last one, those between, and none before and behind them.
func TestRead(t *testing.T) {
	for _, size := range []int{16, 17, 64} {
		for _, blocks := range []int{1, 2, 3, 511, 512} {
			d := full(size, blocks)
			for _, n := range []int{0, blocks / 2, blocks - 1} {
				wantRead(t, d, n, d.Blocks[n], api.OK)
				wantRead(t, empty(size, blocks), n, "", api.OK)
				wantRead(t, armed(d, 1), n, d.Blocks[n], api.OK)
			}
			for _, n := range append([]int{blocks, blocks + 1, -1, -2, -blocks}, extremes()...) {
				wantRead(t, d, n, "", api.ErrRange)
			}
		}
	}
}

// P10.2: any bytes are read as they are.
func TestReadOfBytes(t *testing.T) {
	for b := range 256 {
		s := string([]byte{byte(b), 0, byte(b)})
		wantRead(t, of("", s, ""), 1, s, api.OK)
	}
}

// P10.2: which blocks are torn and bad, and each pair of errors that can hold at once.
func TestReadErrors(t *testing.T) {
	d := marked(of("a", "b", "c", "d", "e", "f"), []int{1, 3}, []int{2, 3, 5})
	for n, e := range []api.Errno{api.OK, api.ErrTorn, api.ErrBad, api.ErrBad, api.OK, api.ErrBad, api.ErrRange} {
		wantRead(t, d, n, map[int]string{0: "a", 4: "e"}[n], e)
		wantRead(t, down(d), n, "", api.ErrDown)
		wantRead(t, armed(down(d), 0), -1-n, "", api.ErrDown)
	}
	for _, n := range extremes() {
		wantRead(t, down(d), n, "", api.ErrDown)
	}
}

// P10.2: torn and bad blocks of a device that is full of them are told apart.
func TestReadOfMany(t *testing.T) {
	d := marked(full(64, 512), even(512), []int{1, 2, 509, 510, 511})
	for n := range 512 {
		switch {
		case n <= 2 && n > 0 || n >= 509:
			wantRead(t, d, n, "", api.ErrBad)
		case n%2 == 0:
			wantRead(t, d, n, "", api.ErrTorn)
		default:
			wantRead(t, d, n, d.Blocks[n], api.OK)
		}
	}
}

// P10.3: each block of devices of all sizes, with the least and the greatest texts; all other blocks stay.
func TestWrite(t *testing.T) {
	for _, size := range sizes() {
		for _, blocks := range []int{1, 2, 3, 511, 512} {
			for _, d := range []api.Device{empty(size, blocks), full(size, blocks)} {
				for _, n := range []int{0, blocks / 2, blocks - 1} {
					for _, length := range []int{0, 1, size - 1, size} {
						s := strings.Repeat("\xfe", length)
						wantWrite(t, d, n, s, put(d, n, s), api.OK)
					}
				}
			}
		}
	}
}

// P10.3: texts that are longer than a block, and blocks that are not there.
func TestWriteOutOfRange(t *testing.T) {
	for _, size := range sizes() {
		d := full(size, 3)
		for _, length := range []int{size + 1, size + 2, 2 * size, 256, 1 << 16} {
			for n := range 3 {
				wantWrite(t, d, n, strings.Repeat("x", length), api.Device{}, api.ErrLimit)
			}
		}
		for _, n := range append([]int{3, 4, -1, -2, -3}, extremes()...) {
			wantWrite(t, d, n, "x", api.Device{}, api.ErrRange)
		}
	}
}

// P10.3: each pair of errors that can hold at once; none of them burns the fuse.
func TestWriteErrors(t *testing.T) {
	long := strings.Repeat("x", 17)
	d := marked(of("a", "b", "c", "d"), []int{1, 2}, []int{2, 3})
	for _, fuse := range []int{0, 1, 2, api.MaxTick} {
		d := armed(d, fuse)
		for _, n := range []int{-1, 0, 1, 2, 3, 4} {
			wantWrite(t, down(d), n, "x", api.Device{}, api.ErrDown)
			wantWrite(t, down(d), n, long, api.Device{}, api.ErrDown)
		}
		wantWrite(t, d, -1, long, api.Device{}, api.ErrRange)
		wantWrite(t, d, 4, long, api.Device{}, api.ErrRange)
		for n := range 4 {
			wantWrite(t, d, n, long, api.Device{}, api.ErrLimit)
		}
		wantWrite(t, d, 2, "x", api.Device{}, api.ErrBad)
		wantWrite(t, d, 3, strings.Repeat("x", 16), api.Device{}, api.ErrBad)
	}
}

// P10.3: a block that is written is not torn any more, whatever is written; others stay torn.
func TestWriteToTornBlocks(t *testing.T) {
	d := marked(of("a", "b", "c", "d", "e"), []int{0, 2, 4}, []int{3})
	for n, torn := range map[int][]int{0: {2, 4}, 1: {0, 2, 4}, 2: {0, 4}, 4: {0, 2}} {
		for _, s := range []string{"", "x", strings.Repeat("x", 16)} {
			for _, fuse := range []int{0, 2} {
				want := armed(put(d, n, s), fuse/2)
				want.Torn = torn
				wantWrite(t, armed(d, fuse), n, s, want, api.OK)
				wantRead(t, want, n, s, api.OK)
			}
		}
	}
	one := marked(of("a"), []int{0}, nil)
	wantWrite(t, one, 0, "x", of("x"), api.OK)
	all := marked(full(16, 512), upTo(512), nil)
	wantWrite(t, all, 511, "x", put(marked(full(16, 512), upTo(511), nil), 511, "x"), api.OK)
}

// P10.3: the write with which the fuse ends is torn, into any block: what was there before is gone, and other blocks stay.
func TestTornWrites(t *testing.T) {
	d := marked(of("a", "b", "c", "d", "e"), []int{2}, []int{3})
	for n, torn := range map[int][]int{0: {0, 2}, 1: {1, 2}, 2: {2}, 4: {2, 4}} {
		for _, s := range []string{"", "x", d.Blocks[n], strings.Repeat("x", 16)} {
			wantWrite(t, armed(d, 1), n, s, down(marked(put(d, n, ""), torn, []int{3})), api.ErrDown)
		}
	}
	for _, blocks := range []int{1, 2, 512} {
		for _, n := range []int{0, blocks / 2, blocks - 1} {
			wantWrite(t, armed(full(64, blocks), 1), n, "x", down(marked(full(64, blocks), []int{n}, nil)), api.ErrDown)
			wantWrite(t, armed(marked(full(64, blocks), upTo(blocks), nil), 1), n, "x", down(marked(full(64, blocks), upTo(blocks), nil)), api.ErrDown)
		}
	}
}

// P10.3: a fuse becomes 1 less with each write, but no less than 0.
func TestFuses(t *testing.T) {
	d := of("a", "b")
	wantWrite(t, d, 0, "x", of("x", "b"), api.OK)
	for _, fuse := range []int{2, 3, 4, 255, 256, 257, 1 << 16, api.MaxTick - 1, api.MaxTick} {
		wantWrite(t, armed(d, fuse), 0, "x", armed(of("x", "b"), fuse-1), api.OK)
		wantWrite(t, armed(d, fuse), 1, "", armed(of("a", ""), fuse-1), api.OK)
	}
}

// The consequences: with the fuse n, the first n - 1 writes are done, and the n-th one is torn; the device is up before, and down behind it.
func TestFuseOfN(t *testing.T) {
	for _, fuse := range []int{1, 2, 3, 4, 100, 1000, api.MaxTick} {
		d, _ := device.Arm(of("", ""), fuse)
		for i := range fuse - 1 {
			next, e := device.Write(d, i%2, "x")
			if e != api.OK || next.Fuse != fuse-1-i || next.Down {
				t.Fatalf("fuse %d, write %d: %s, %d", fuse, i+1, show(next), e)
			}
			d = next
		}
		d, e := device.Write(d, 1, "y")
		if e != api.ErrDown || !same(d, down(marked(put(d, 1, ""), []int{1}, nil))) {
			t.Errorf("fuse %d, the last write: %s, %d", fuse, show(d), e)
		}
		wantWrite(t, d, 0, "z", api.Device{}, api.ErrDown)
		wantRead(t, d, 0, "", api.ErrDown)
	}
}

// P10.4: fuses at the limits, on devices that are down and that are not.
func TestArm(t *testing.T) {
	for _, d := range []api.Device{of("a"), full(64, 512), armed(of("a", ""), 5), down(of("a")), down(armed(of("a"), 1)), marked(of("a", "b", "c"), []int{0}, []int{0, 2})} {
		for _, fuse := range []int{0, 1, 2, 3, 1 << 19, api.MaxTick - 1, api.MaxTick} {
			wantArm(t, d, fuse, armed(d, fuse), api.OK)
		}
		for _, fuse := range append([]int{-1, -2, -api.MaxTick, api.MaxTick + 1, api.MaxTick + 2}, extremes()...) {
			wantArm(t, d, fuse, api.Device{}, api.ErrRange)
		}
	}
}

// P10.4: a device that is down comes up without a fuse, with its torn and bad blocks; one that is up stays as it is.
func TestStart(t *testing.T) {
	for _, d := range rights() {
		up := d
		up.Down = false
		wantStart(t, up, up, api.OK)
		wantStart(t, down(d), armed(up, 0), api.OK)
	}
	wantStart(t, armed(of("a"), 1), armed(of("a"), 1), api.OK)
	wantStart(t, armed(of("a"), api.MaxTick), armed(of("a"), api.MaxTick), api.OK)
	wantStart(t, down(armed(of("a"), api.MaxTick)), of("a"), api.OK)
}

// P10.4: blocks that are good, torn, bad and both become bad, and not torn; all others stay.
func TestFail(t *testing.T) {
	d := marked(of("a", "b", "c", "d", "e"), []int{1, 3}, []int{2, 3})
	wants := []api.Device{
		marked(d, []int{1, 3}, []int{0, 2, 3}),
		marked(d, []int{3}, []int{1, 2, 3}),
		d,
		marked(d, []int{1}, []int{2, 3}),
		marked(d, []int{1, 3}, []int{2, 3, 4}),
	}
	for n, want := range wants {
		wantFail(t, d, n, want, api.OK)
		wantFail(t, down(d), n, down(want), api.OK)
		wantFail(t, armed(d, 1), n, armed(want, 1), api.OK)
		wantFail(t, down(armed(d, 7)), n, down(armed(want, 7)), api.OK)
		wantRead(t, want, n, "", api.ErrBad)
		wantWrite(t, want, n, "x", api.Device{}, api.ErrBad)
	}
	for _, n := range append([]int{5, 6, -1, -2, -5}, extremes()...) {
		wantFail(t, d, n, api.Device{}, api.ErrRange)
		wantFail(t, down(d), n, api.Device{}, api.ErrRange)
	}
}

// P10.4: the first block, the last one and those between, of the least and the greatest devices.
func TestFailOfEdges(t *testing.T) {
	for _, blocks := range []int{1, 2, 511, 512} {
		d := full(64, blocks)
		for _, n := range []int{0, blocks / 2, blocks - 1} {
			wantFail(t, d, n, marked(d, nil, []int{n}), api.OK)
		}
		wantFail(t, d, blocks, api.Device{}, api.ErrRange)
		for n := range blocks {
			next, e := device.Fail(d, blocks-1-n)
			if e != api.OK {
				t.Fatal(blocks, n, e)
			}
			d = next
		}
		wantSame(t, d, marked(d, nil, upTo(blocks)), true)
	}
}

// P10.2 to P10.4: a device that is not valid is the first error of all, also where other ones hold.
func TestWrongDevices(t *testing.T) {
	long := strings.Repeat("x", 1<<17)
	for _, d := range wrongs() {
		for _, d := range []api.Device{d, down(d), armed(d, 1), down(armed(d, api.MaxTick))} {
			if device.Check(d) == api.OK {
				continue // it was the fuse that was wrong
			}
			for _, n := range []int{0, 1, 2, 511, 512, -1, math.MaxInt} {
				wantRead(t, d, n, "", api.ErrForm)
				wantFail(t, d, n, api.Device{}, api.ErrForm)
				wantArm(t, d, n, api.Device{}, api.ErrForm)
			}
			wantWrite(t, d, 0, "", api.Device{}, api.ErrForm)
			wantWrite(t, d, -1, "x", api.Device{}, api.ErrForm)
			wantWrite(t, d, 1, long, api.Device{}, api.ErrForm)
			wantStart(t, d, api.Device{}, api.ErrForm)
		}
	}
}

// P10.2 to P10.4: a device that is not valid in one place comes before a block that has failed in another one.
func TestWrongDevicesWithBadBlocks(t *testing.T) {
	for _, d := range []api.Device{armed(marked(of("a", "b", "c"), []int{1}, []int{0}), -1), put(marked(of("a", "b", "c"), []int{1}, []int{0}), 1, "x"), marked(of("a", "b", "c"), []int{1, 1}, []int{0})} {
		for n := range 3 {
			wantRead(t, d, n, "", api.ErrForm)
			wantWrite(t, d, n, "x", api.Device{}, api.ErrForm)
			wantWrite(t, down(d), n, strings.Repeat("x", 17), api.Device{}, api.ErrForm)
			wantFail(t, d, n, api.Device{}, api.ErrForm)
		}
		wantArm(t, d, -1, api.Device{}, api.ErrForm)
		wantStart(t, down(d), api.Device{}, api.ErrForm)
	}
}

// The chapter's example.
func TestExample(t *testing.T) {
	d, _ := device.New(16, 2)
	d, _ = device.Arm(d, 2)
	d, e := device.Write(d, 0, "one")
	if e != api.OK {
		t.Error(e)
	}
	d, e = device.Write(d, 1, "two")
	if e != api.ErrDown {
		t.Error(e)
	}
	d, _ = device.Start(d)
	wantRead(t, d, 0, "one", api.OK)
	wantRead(t, d, 1, "", api.ErrTorn)
	d, _ = device.Write(d, 1, "three")
	wantRead(t, d, 1, "three", api.OK)
}

// anyDevice returns a device in which some things are wrong, or none.
func anyDevice(r *rand.Rand) api.Device {
	d := marked(full(16+r.Intn(4), 1+r.Intn(4)), nil, nil)
	edges := append([]int{0, 1, 2, 3, 15, 16, 17, 64, 65, -1, api.MaxTick, api.MaxTick + 1}, extremes()...)
	number := func() int { return edges[r.Intn(len(edges))] }
	for range r.Intn(4) {
		switch r.Intn(8) {
		case 0:
			d.Size = number()
		case 1:
			d.Fuse = number()
		case 2:
			d.Down = !d.Down
		case 3:
			d.Torn = append(d.Torn, number())
		case 4:
			d.Bad = append(d.Bad, number())
		case 5:
			d.Torn = append(d.Torn, r.Intn(len(d.Blocks)))
		default:
			d.Blocks[r.Intn(len(d.Blocks))] = strings.Repeat("x", r.Intn(3)*r.Intn(12))
		}
	}
	return d
}

// R1: whatever a device is, all functions agree on whether it is valid, and what they return is valid, or nothing.
func TestAnyDevices(t *testing.T) {
	r := rand.New(rand.NewSource(53))
	for range 50000 {
		d := anyDevice(r)
		n, fuse, s := r.Intn(6)-1, r.Intn(4)-1, strings.Repeat("y", r.Intn(20))
		_, read := device.Read(d, n)
		written, wrote := device.Write(d, n, s)
		fused, arm := device.Arm(d, fuse)
		started, start := device.Start(d)
		failed, fail := device.Fail(d, n)
		e := device.Check(d)
		for _, got := range []api.Errno{read, wrote, arm, start, fail} {
			if (got == api.ErrForm) != (e == api.ErrForm) {
				t.Errorf("%s: %d and %d", show(d), e, got)
			}
		}
		for _, next := range []api.Device{written, fused, started, failed} {
			if device.Check(next) != api.OK && !same(next, api.Device{}) {
				t.Errorf("%s: %s", show(d), show(next))
			}
		}
	}
}

// spare returns a device with other elements in the spare capacity of its lists, and these lists with it.
func spare(d api.Device) (api.Device, []string, []int, []int) {
	blocks := append(slices.Clone(d.Blocks), "spare", "more")
	torn, bad := append(slices.Clone(d.Torn), -7, -8), append(slices.Clone(d.Bad), -9, -10)
	d.Blocks, d.Torn, d.Bad = blocks[:len(d.Blocks)], torn[:len(d.Torn)], bad[:len(d.Bad)]
	return d, blocks, torn, bad
}

// useAll calls all functions with a device.
func useAll(d api.Device) []api.Device {
	var l []api.Device
	for _, n := range []int{-1, 0, 1, 2, len(d.Blocks) - 1, len(d.Blocks)} {
		device.Read(d, n)
		for _, s := range []string{"", "new", strings.Repeat("x", 65)} {
			written, _ := device.Write(d, n, s)
			l = append(l, written)
		}
		failed, _ := device.Fail(d, n)
		armed, _ := device.Arm(d, n)
		l = append(l, failed, armed)
	}
	device.Check(d)
	device.Same(d, d)
	started, _ := device.Start(d)
	return append(l, started)
}

// manyStates returns devices in many states, also wrong ones.
func manyStates() []api.Device {
	l := append(rights(), wrongs()...)
	for _, m := range smallModels() {
		l = append(l, m.device())
	}
	return l
}

// R2: arguments stay as they are, also their spare capacity.
func TestArgumentsStay(t *testing.T) {
	for _, given := range manyStates() {
		if len(given.Blocks) > 512 || len(given.Torn)+len(given.Bad) > 1024 {
			continue
		}
		d, blocks, torn, bad := spare(given)
		beforeBlocks, beforeTorn, beforeBad := slices.Clone(blocks), slices.Clone(torn), slices.Clone(bad)
		useAll(d)
		if !same(d, given) || !slices.Equal(blocks, beforeBlocks) || !slices.Equal(torn, beforeTorn) || !slices.Equal(bad, beforeBad) {
			t.Errorf("%s: an argument has changed", show(given))
		}
	}
}

// overlap reports whether two lists share memory, also that of their spare capacity.
func overlap[T any](a, b []T) bool {
	if cap(a) == 0 || cap(b) == 0 {
		return false
	}
	var one T
	x, y := uintptr(unsafe.Pointer(&a[:1][0])), uintptr(unsafe.Pointer(&b[:1][0]))
	return x < y+uintptr(cap(b))*unsafe.Sizeof(one) && y < x+uintptr(cap(a))*unsafe.Sizeof(one)
}

// overlapTexts reports whether two texts share memory. Texts of one byte may be constants of the language.
func overlapTexts(a, b string) bool {
	return len(a) > 1 && len(b) > 1 && overlap(unsafe.Slice(unsafe.StringData(a), len(a)), unsafe.Slice(unsafe.StringData(b), len(b)))
}

// shares reports whether two devices share memory.
func shares(a, b api.Device) bool {
	for _, s := range a.Blocks {
		for _, x := range b.Blocks {
			if overlapTexts(s, x) {
				return true
			}
		}
	}
	return overlap(a.Blocks, b.Blocks) || overlap(a.Torn, b.Torn) || overlap(a.Bad, b.Bad) || overlap(a.Torn, b.Bad) || overlap(a.Bad, b.Torn)
}

// R2: results share no memory with arguments, nor among each other.
func TestResultsAreNew(t *testing.T) {
	for _, given := range []api.Device{full(16, 1), full(16, 3), marked(full(64, 5), []int{0, 2}, []int{3}), marked(full(64, 5), []int{0, 1, 2}, []int{1, 3}), down(full(16, 4)), armed(full(16, 4), 1), armed(marked(full(16, 4), []int{1}, nil), 1), down(armed(marked(full(17, 9), even(9), even(9)), 3))} {
		d, _, _, _ := spare(given)
		l := append(useAll(d), d)
		for i, a := range l {
			if overlap(a.Torn, a.Bad) {
				t.Errorf("%s: Torn and Bad share memory", show(a))
			}
			for _, b := range l[:i] {
				if shares(a, b) {
					t.Errorf("%s: %s and %s share memory", show(d), show(a), show(b))
				}
			}
		}
	}
	a, _ := device.New(16, 4)
	b, _ := device.New(16, 4)
	if shares(a, b) {
		t.Error("two new devices share memory")
	}
}

// R2: texts that are written and read are new memory, too.
func TestTextsAreNew(t *testing.T) {
	s := strings.Repeat("ab", 3)
	d, _ := device.Write(of("", ""), 1, s)
	got, _ := device.Read(d, 1)
	again, _ := device.Read(d, 1)
	if overlapTexts(s, d.Blocks[1]) || overlapTexts(s, got) || overlapTexts(got, d.Blocks[1]) || overlapTexts(got, again) {
		t.Error("texts share memory")
	}
}

// R4: results do not depend on what was done with earlier ones.
func TestResultsStay(t *testing.T) {
	d := marked(of("a", "b", "c"), []int{1}, []int{2})
	for range 2 {
		for _, x := range useAll(d) {
			for n := range x.Blocks {
				x.Blocks[n] = "other"
			}
			for i := range x.Torn {
				x.Torn[i] = -1
			}
			for i := range x.Bad {
				x.Bad[i] = -1
			}
		}
		wantWrite(t, d, 1, "x", marked(of("a", "x", ""), nil, []int{2}), api.OK)
		wantFail(t, d, 0, marked(of("", "", ""), []int{1}, []int{0, 2}), api.OK)
		wantNew(t, 16, 3, of("", "", ""), api.OK)
	}
}
