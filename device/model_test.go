package device_test

import (
	"fmt"
	"math"
	"math/rand"
	"slices"
	"strings"
	"testing"

	"storagebarter/api"
	"storagebarter/device"
)

// block is what was written last to a block, and what has happened to it.
type block struct {
	text      string
	torn, bad bool
}

// model is a device as the chapter defines it, block by block.
type model struct {
	size   int
	blocks []block
	fuse   int
	down   bool
}

// device returns the device that a model is.
func (m model) device() api.Device {
	d := api.Device{Size: m.size, Fuse: m.fuse, Down: m.down}
	for n, b := range m.blocks {
		d.Blocks = append(d.Blocks, b.text)
		if b.torn {
			d.Torn = append(d.Torn, n)
		}
		if b.bad {
			d.Bad = append(d.Bad, n)
		}
	}
	return d
}

// is reports whether there is a block with this number.
func (m model) is(n int) bool { return n >= 0 && n < len(m.blocks) }

// with returns a model with another block.
func (m model) with(n int, b block) model {
	m.blocks = slices.Clone(m.blocks)
	m.blocks[n] = b
	return m
}

// read is the definition of Read.
func (m model) read(n int) (string, api.Errno) {
	switch {
	case m.down:
		return "", api.ErrDown
	case !m.is(n):
		return "", api.ErrRange
	case m.blocks[n].bad:
		return "", api.ErrBad
	case m.blocks[n].torn:
		return "", api.ErrTorn
	}
	return m.blocks[n].text, api.OK
}

// write is the definition of Write.
func (m model) write(n int, s string) (model, api.Errno) {
	switch {
	case m.down:
		return model{}, api.ErrDown
	case !m.is(n):
		return model{}, api.ErrRange
	case len(s) > m.size:
		return model{}, api.ErrLimit
	case m.blocks[n].bad:
		return model{}, api.ErrBad
	}
	if m.fuse == 1 {
		m = m.with(n, block{torn: true})
		m.fuse, m.down = 0, true
		return m, api.ErrDown
	}
	m = m.with(n, block{text: s})
	if m.fuse > 1 {
		m.fuse--
	}
	return m, api.OK
}

// arm is the definition of Arm.
func (m model) arm(fuse int) (model, api.Errno) {
	if fuse < 0 || fuse > 1048576 {
		return model{}, api.ErrRange
	}
	m.fuse = fuse
	return m, api.OK
}

// start is the definition of Start.
func (m model) start() model {
	if m.down {
		m.down, m.fuse = false, 0
	}
	return m
}

// fail is the definition of Fail.
func (m model) fail(n int) (model, api.Errno) {
	if !m.is(n) {
		return model{}, api.ErrRange
	}
	return m.with(n, block{bad: true}), api.OK
}

// smallModels returns all models of three blocks: each empty, with a text, torn, bad, or both; with the least fuses and the greatest ones; down, or not.
func smallModels() []model {
	states := []block{{}, {text: "abc"}, {torn: true}, {bad: true}, {torn: true, bad: true}}
	var l []model
	for _, a := range states {
		for _, b := range states {
			for _, c := range states {
				for _, fuse := range []int{0, 1, 2, 3, api.MaxTick - 1, api.MaxTick} {
					l = append(l, model{16, []block{a, b, c}, fuse, false}, model{16, []block{a, b, c}, fuse, true})
				}
			}
		}
	}
	return l
}

// P10.2: Read of all small devices, with the errors in their order.
func TestReadOfSmallDevices(t *testing.T) {
	for _, m := range smallModels() {
		d := m.device()
		for _, n := range append([]int{0, 1, 2, 3, 4, -1, -2, -3}, extremes()...) {
			s, e := m.read(n)
			wantRead(t, d, n, s, e)
		}
	}
}

// P10.3: Write to all small devices, with the errors in their order.
func TestWriteToSmallDevices(t *testing.T) {
	texts := []string{"", "x", strings.Repeat("y", 15), strings.Repeat("y", 16), strings.Repeat("y", 17), strings.Repeat("y", 64)}
	for _, m := range smallModels() {
		d := m.device()
		for _, n := range []int{0, 1, 2, 3, 4, -1, math.MinInt, math.MaxInt} {
			for _, s := range texts {
				next, e := m.write(n, s)
				wantWrite(t, d, n, s, next.device(), e)
			}
		}
	}
}

// P10.4: Arm, Start and Fail of all small devices, also of those that are down.
func TestArmStartAndFailOfSmallDevices(t *testing.T) {
	for _, m := range smallModels() {
		d := m.device()
		for _, fuse := range append([]int{0, 1, 2, 3, -1, api.MaxTick - 1, api.MaxTick, api.MaxTick + 1}, extremes()...) {
			next, e := m.arm(fuse)
			wantArm(t, d, fuse, next.device(), e)
		}
		wantStart(t, d, m.start().device(), api.OK)
		for _, n := range append([]int{0, 1, 2, 3, 4, -1, -2, -3}, extremes()...) {
			next, e := m.fail(n)
			wantFail(t, d, n, next.device(), e)
		}
	}
}

// P10.1: all small devices are valid, and each is equal to itself alone.
func TestCheckAndSameOfSmallDevices(t *testing.T) {
	l := smallModels()
	for i, m := range l {
		wantCheck(t, m.device(), api.OK)
		wantSame(t, m.device(), m.device(), true)
		wantSame(t, m.device(), l[(i+1)%len(l)].device(), false)
		wantSame(t, m.device(), l[(i+12)%len(l)].device(), false)
		wantSame(t, m.device(), l[(i+500)%len(l)].device(), false)
	}
}

// history is a device with what has been done to it.
type history struct {
	t    *testing.T
	r    *rand.Rand
	m    model
	d    api.Device
	done []string
}

// begin returns the history of a new device.
func begin(t *testing.T, r *rand.Rand, size, blocks int) *history {
	d, e := device.New(size, blocks)
	if e != api.OK {
		t.Fatal(size, blocks, e)
	}
	return &history{t: t, r: r, m: model{size: size, blocks: make([]block, blocks)}, d: d}
}

// take goes on with a device that a call has returned, if the definition returns one.
func (h *history) take(what string, d api.Device, e api.Errno, m model, want api.Errno) {
	h.t.Helper()
	h.done = append(h.done, what)
	if e != want || !same(d, m.device()) {
		h.t.Fatalf("%s: got %s, %d, want %s, %d", strings.Join(h.done, " "), show(d), e, show(m.device()), want)
	}
	if m.size > 0 {
		h.d, h.m = d, m
	}
}

func (h *history) write(n int, s string) {
	h.t.Helper()
	d, e := device.Write(h.d, n, s)
	m, want := h.m.write(n, s)
	h.take(fmt.Sprintf("write(%d,%.5q)", n, s), d, e, m, want)
}

func (h *history) arm(fuse int) {
	h.t.Helper()
	d, e := device.Arm(h.d, fuse)
	m, want := h.m.arm(fuse)
	h.take(fmt.Sprintf("arm(%d)", fuse), d, e, m, want)
}

func (h *history) start() {
	h.t.Helper()
	d, e := device.Start(h.d)
	h.take("start", d, e, h.m.start(), api.OK)
}

func (h *history) fail(n int) {
	h.t.Helper()
	d, e := device.Fail(h.d, n)
	m, want := h.m.fail(n)
	h.take(fmt.Sprintf("fail(%d)", n), d, e, m, want)
}

// step does anything, mostly something that is permitted.
func (h *history) step() {
	h.t.Helper()
	n := h.r.Intn(len(h.m.blocks)+2) - 1
	switch k := h.r.Intn(20); {
	case k < 13:
		h.write(n, strings.Repeat(string(rune('a'+h.r.Intn(26))), h.r.Intn(h.m.size+2)))
	case k < 15:
		h.arm(h.r.Intn(8) - 1)
	case k < 19:
		h.start()
	default:
		h.fail(n)
	}
}

// The consequences: whatever is done in whatever order, what is read is what was written last, or an error, and the device stays valid.
func TestHistories(t *testing.T) {
	r := rand.New(rand.NewSource(51))
	for range 300 {
		h := begin(t, r, 16+r.Intn(49), 1+r.Intn(12))
		for range 60 {
			h.step()
			wantCheck(t, h.d, api.OK)
			for n := range h.m.blocks {
				s, e := h.m.read(n)
				wantRead(t, h.d, n, s, e)
			}
		}
	}
}

// The consequences: the n-th write that has no error is torn, whichever writes with errors are in between.
func TestFuseWithErrorsBetween(t *testing.T) {
	r := rand.New(rand.NewSource(52))
	for fuse := 1; fuse <= 40; fuse++ {
		h := begin(t, r, 16, 5)
		h.fail(3)
		h.arm(fuse)
		for i := range fuse - 1 {
			h.write(i%3, fmt.Sprint("w", i))
			h.write(3, "bad")
			h.write(5, "behind")
			h.write(-1, "before")
			h.write(0, strings.Repeat("l", 17))
			wantRead(t, h.d, i%3, fmt.Sprint("w", i), api.OK)
			if h.d.Down || h.d.Fuse != fuse-1-i {
				t.Fatalf("fuse %d, write %d: %s", fuse, i, show(h.d))
			}
		}
		h.write(4, "torn")
		if !h.d.Down || h.d.Fuse != 0 || !slices.Equal(h.d.Torn, []int{4}) {
			t.Errorf("fuse %d: %s", fuse, show(h.d))
		}
	}
}
