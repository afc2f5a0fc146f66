package tests

import (
	"fmt"
	"math"
	"math/rand"
	"slices"
	"strconv"
	"strings"
	"testing"

	"loop.example/g00271/impl"
)

// mostCached and mostRead are how many writes a cache has, and how many sectors are read, at the most.
const (
	mostCached = 400
	mostRead   = 300
)

// filled is a sector that begins with a text, and has bytes 0 behind it.
func filled(text string) string {
	return text + strings.Repeat("\x00", impl.Sector-len(text))
}

// full is a sector of one byte again and again.
func full(b byte) string { return strings.Repeat(string([]byte{b}), impl.Sector) }

func writeOf(at int64, text string) impl.Write { return impl.Write{At: at, Text: text} }

// diskOf is a disk of these sectors, right or not, with nothing in its cache.
func diskOf(sectors ...string) impl.Disk { return impl.Disk{Sectors: sectors} }

// cached is a disk with these writes, right or not, behind those in its cache.
func cached(d impl.Disk, writes ...impl.Write) impl.Disk {
	return impl.Disk{Sectors: slices.Clone(d.Sectors), Cache: slices.Concat(d.Cache, writes)}
}

func sectorsOf(text string, many int) []string { return slices.Repeat([]string{text}, many) }

// blank is a disk of bytes 0.
func blank(many int) impl.Disk { return diskOf(sectorsOf(full(0), many)...) }

// busy is a disk of so many sectors, no two alike, and of so many writes, which go round them.
func busy(sectors int, writes int) impl.Disk {
	var d impl.Disk
	for i := range sectors {
		d.Sectors = append(d.Sectors, filled("lies "+strconv.Itoa(i)))
	}
	for i := range writes {
		d.Cache = append(d.Cache, writeOf(int64(i*7%sectors), filled("write "+strconv.Itoa(i))))
	}
	return d
}

func keeps(keep bool, many int) []bool { return slices.Repeat([]bool{keep}, many) }

func alikeDisks(a impl.Disk, b impl.Disk) bool {
	return slices.Equal(a.Sectors, b.Sectors) && slices.Equal(a.Cache, b.Cache)
}

// tellDisk tells where a disk is not as another one.
func tellDisk(d impl.Disk, other impl.Disk) string {
	l := []string{fmt.Sprintf("%d sectors, %d writes", len(d.Sectors), len(d.Cache))}
	for i, text := range d.Sectors {
		if i >= len(other.Sectors) || other.Sectors[i] != text {
			l = append(l, fmt.Sprintf("sector %d: %.40q", i, text))
		}
	}
	for i, w := range d.Cache {
		if i >= len(other.Cache) || other.Cache[i] != w {
			l = append(l, fmt.Sprintf("write %d: of %d %.40q", i, w.At, w.Text))
		}
	}
	return strings.Join(l[:min(len(l), 5)], ", ")
}

func sameDisk(t *testing.T, what string, got impl.Disk, want impl.Disk) {
	t.Helper()
	if !alikeDisks(got, want) {
		t.Errorf("%s: got %s; want %s", what, tellDisk(got, want), tellDisk(want, got))
	}
}

// sameWritten looks at all that is told of a write.
func sameWritten(t *testing.T, what string, got impl.DiskOut, want impl.DiskOut) {
	t.Helper()
	if got.Code != want.Code || got.Text != want.Text {
		t.Errorf("%s: got code %d and %s, want code %d and %s", what, got.Code, brief(got.Text), want.Code, brief(want.Text))
	}
	sameDisk(t, what, got.Disk, want.Disk)
}

// sameRead looks at all that is told of a read.
func sameRead(t *testing.T, what string, got impl.DiskOut, text string, code int64) {
	t.Helper()
	sameWritten(t, what, got, impl.DiskOut{Text: text, Code: code})
}

func cloneDisk(d impl.Disk) impl.Disk {
	return impl.Disk{Sectors: slices.Clone(d.Sectors), Cache: slices.Clone(d.Cache)}
}

func spansOfDisk(d impl.Disk, what string) []span {
	return []span{spanOf(d.Sectors, what+" Sectors"), spanOf(d.Cache, what+" Cache")}
}

// The plain functions do what the document says on one long run of bytes, in another way than the program.

// plainDone tells a disk's bytes with these writes done.
func plainDone(d impl.Disk, writes []impl.Write) []byte {
	b := []byte(strings.Join(d.Sectors, ""))
	for _, w := range writes {
		copy(b[w.At*impl.Sector:], w.Text)
	}
	return b
}

// plainCut is a disk of these bytes.
func plainCut(b []byte) impl.Disk {
	var d impl.Disk
	for piece := range slices.Chunk(b, impl.Sector) {
		d.Sectors = append(d.Sectors, string(piece))
	}
	return d
}

func plainCrash(d impl.Disk, keep []bool) impl.Disk {
	var writes []impl.Write
	for i := range min(len(keep), len(d.Cache)) {
		if keep[i] {
			writes = append(writes, d.Cache[i])
		}
	}
	return plainCut(plainDone(d, writes))
}

func plainFlush(d impl.Disk) impl.Disk { return plainCut(plainDone(d, d.Cache)) }

func plainRead(d impl.Disk, at int64, many int64) impl.DiskOut {
	b := plainDone(d, d.Cache)
	if many < 0 || many > mostRead || at < 0 || at > int64(len(d.Sectors)) || at+many > int64(len(d.Sectors)) {
		return impl.DiskOut{Code: impl.ErrRange}
	}
	return impl.DiskOut{Text: string(b[at*impl.Sector : (at+many)*impl.Sector])}
}

// plainWrite is asked of right disks and texts that are not too long.
func plainWrite(d impl.Disk, at int64, text string) impl.DiskOut {
	for len(text)%impl.Sector != 0 {
		text += "\x00"
	}
	var pieces []impl.Write
	for text != "" {
		pieces = append(pieces, writeOf(at+int64(len(pieces)), text[:impl.Sector]))
		text = text[impl.Sector:]
	}
	switch {
	case at < 0 || at > int64(len(d.Sectors)) || at+int64(len(pieces)) > int64(len(d.Sectors)):
		return impl.DiskOut{Code: impl.ErrRange}
	case len(d.Cache)+len(pieces) > mostCached:
		return impl.DiskOut{Code: impl.ErrFull}
	}
	return impl.DiskOut{Disk: cached(d, pieces...)}
}

// Disks to try.

func rightDisks() map[string]impl.Disk {
	three := diskOf(filled("a"), full(255), filled("c"))
	right := map[string]impl.Disk{
		"none":                    {},
		"empty lists":             {Sectors: []string{}, Cache: []impl.Write{}},
		"one of bytes 0":          blank(1),
		"three":                   three,
		"as many as may be":       blank(impl.MaxSectors),
		"a write":                 cached(three, writeOf(1, filled("w"))),
		"a write of bytes 0":      cached(three, writeOf(1, full(0))),
		"writes of the ends":      cached(three, writeOf(2, full('y')), writeOf(0, full('x'))),
		"a sector again":          cached(three, writeOf(1, filled("first")), writeOf(2, filled("other")), writeOf(1, filled("last"))),
		"back to what it was":     cached(three, writeOf(0, full('x')), writeOf(0, filled("a"))),
		"the same write again":    cached(three, writeOf(2, full('x')), writeOf(2, full('x'))),
		"as many writes as may":   busy(5, mostCached),
		"one fewer":               busy(5, mostCached-1),
		"a sector for each write": busy(impl.MaxSectors, mostCached),
		"writes of the last":      cached(blank(impl.MaxSectors), writeOf(impl.MaxSectors-1, full('z'))),
		"all of one":              cached(blank(1), slices.Repeat([]impl.Write{writeOf(0, full('x'))}, mostCached)...),
	}
	r := rand.New(rand.NewSource(31))
	for i := range 60 {
		right["drawn "+strconv.Itoa(i)] = drawDisk(r)
	}
	return right
}

// drawSector draws a sector that another one may well be like.
func drawSector(r *rand.Rand) string {
	switch r.Intn(4) {
	case 0:
		return full(byte(r.Intn(2)))
	case 1:
		return filled(anyText(r.Intn(3)))
	case 2:
		return strings.Repeat("\x00", impl.Sector-1) + string([]byte{byte(r.Intn(2))})
	}
	b := make([]byte, impl.Sector)
	r.Read(b)
	return string(b)
}

func drawDisk(r *rand.Rand) impl.Disk {
	var d impl.Disk
	for range r.Intn(12) {
		d.Sectors = append(d.Sectors, drawSector(r))
	}
	for range r.Intn(15) * min(len(d.Sectors), 1) {
		d.Cache = append(d.Cache, writeOf(int64(r.Intn(len(d.Sectors))), drawSector(r)))
	}
	return d
}

// wrongDisks are not right, each for one reason, which its name tells.
func wrongDisks() map[string]impl.Disk {
	three := diskOf(filled("a"), full(255), filled("c"))
	wrong := map[string]impl.Disk{
		"a sector too many":         blank(impl.MaxSectors + 1),
		"far too many sectors":      blank(3 * impl.MaxSectors),
		"a write too many":          busy(3, mostCached+1),
		"far too many writes":       busy(3, 3*mostCached),
		"a write of no sector":      cached(impl.Disk{}, writeOf(0, full(0))),
		"writes on each other":      cached(three, writeOf(3, full(0)), writeOf(4, full(0))),
		"the zero write":            cached(three, impl.Write{}),
		"the zero write of no disk": cached(impl.Disk{}, impl.Write{}),
	}
	for _, at := range []int64{-1, 3, 4, 1 << 32, 1<<32 + 1, math.MaxInt64, math.MinInt64} {
		wrong["a write of "+strconv.FormatInt(at, 10)] = cached(three, writeOf(at, full('x')))
		wrong["a write behind others of "+strconv.FormatInt(at, 10)] = cached(busy(3, 9), writeOf(at, full('x')))
		wrong["a write ahead of others of "+strconv.FormatInt(at, 10)] = cached(diskOf(three.Sectors...), writeOf(at, full('x')), writeOf(1, full('y')))
	}
	for _, size := range []int{0, 1, impl.Sector - 1, impl.Sector + 1, 2 * impl.Sector, tooLong} {
		text, of := strings.Repeat("s", size), strconv.Itoa(size)+" bytes"
		zeros := strings.Repeat("\x00", size)
		wrong["a sector of "+of] = diskOf(text)
		wrong["a first sector of "+of] = diskOf(text, full(1), full(2))
		wrong["a last sector of "+of] = diskOf(full(1), full(2), zeros)
		wrong["a sector, behind a write, of "+of] = cached(diskOf(full(0), text), writeOf(1, full('x')))
		wrong["a write of "+of] = cached(three, writeOf(1, text))
		wrong["a last write of "+of] = cached(three, writeOf(0, full(1)), writeOf(1, zeros))
		wrong["a first write, written over, of "+of] = cached(three, writeOf(1, text), writeOf(1, full(1)))
	}
	return wrong
}

// What is right, and what is new.

func TestDiskNew(t *testing.T) {
	for _, many := range []int64{0, 1, 2, 3, 63, 64, 65, 400, 401, impl.MaxSectors - 1, impl.MaxSectors} {
		d := impl.DiskNew(many)
		sameDisk(t, strconv.FormatInt(many, 10), d, blank(int(many)))
		same(t, "right", impl.DiskRight(d), true)
		spansApart(t, "two new ones", append(spansOfDisk(d, "one"), spansOfDisk(impl.DiskNew(many), "other")...))
	}
	for _, many := range someNums(20) {
		if many < 0 || many > impl.MaxSectors {
			sameDisk(t, strconv.FormatInt(many, 10), impl.DiskNew(many), impl.Disk{})
		}
	}
	sameDisk(t, "one too many", impl.DiskNew(impl.MaxSectors+1), impl.Disk{})
}

func TestDiskRight(t *testing.T) {
	for what, d := range byName(rightDisks()) {
		same(t, what, impl.DiskRight(d), true)
	}
	for why, d := range byName(wrongDisks()) {
		same(t, why, impl.DiskRight(d), false)
	}
}

// Writing.

func TestDiskWrite(t *testing.T) {
	d := blank(4)
	written := func(what string, from impl.Disk, at int64, text string, want ...impl.Write) {
		t.Helper()
		sameWritten(t, what, impl.DiskWrite(from, at, text), impl.DiskOut{Disk: cached(from, want...)})
	}
	written("a byte", d, 0, "x", writeOf(0, filled("x")))
	written("a byte 0", d, 3, "\x00", writeOf(3, full(0)))
	written("a byte too few", d, 1, full('x')[1:], writeOf(1, full('x')[1:]+"\x00"))
	written("a sector", d, 2, full('x'), writeOf(2, full('x')))
	written("a byte too many", d, 2, full('x')+"y", writeOf(2, full('x')), writeOf(3, filled("y")))
	written("two, less a byte", d, 0, full('x')+full('y')[1:], writeOf(0, full('x')), writeOf(1, full('y')[1:]+"\x00"))
	written("two", d, 2, full('x')+full('y'), writeOf(2, full('x')), writeOf(3, full('y')))
	written("all", d, 0, full('1')+full('2')+full('3')+"4", writeOf(0, full('1')), writeOf(1, full('2')), writeOf(2, full('3')), writeOf(3, filled("4")))
	for at := range int64(5) {
		written("nothing", d, at, "")
	}
	written("nothing on nothing", impl.Disk{}, 0, "")
	lies := diskOf(full('a'), full('b'))
	written("what lies there", lies, 1, full('b'), writeOf(1, full('b')))
	one := impl.DiskWrite(lies, 1, "one").Disk
	written("behind another", one, 0, "two", writeOf(0, filled("two")))
	written("over another", one, 1, "\x00", writeOf(1, full(0)))
	written("the same again", one, 1, "one", writeOf(1, filled("one")))
}

func TestDiskWriteRange(t *testing.T) {
	outside := impl.DiskOut{Code: impl.ErrRange}
	d := cached(blank(4), writeOf(1, full('x')))
	texts := []string{"", "x", full('x'), full('x') + "y", strings.Repeat("x", 4*impl.Sector), strings.Repeat("x", 4*impl.Sector+1), strings.Repeat("x", impl.MaxBytes)}
	for _, text := range texts {
		for _, at := range append(edgeNums(), 5, 6) {
			if at < 0 || at > 4 {
				sameWritten(t, strconv.Itoa(len(text))+" bytes at "+strconv.FormatInt(at, 10), impl.DiskWrite(d, at, text), outside)
			}
		}
	}
	for at := range int64(5) {
		lacks := int(4-at) * impl.Sector
		same(t, "all that is left", impl.DiskWrite(d, at, strings.Repeat("x", lacks)).Code, impl.OK)
		sameWritten(t, "a byte more", impl.DiskWrite(d, at, strings.Repeat("x", lacks+1)), outside)
	}
	sameWritten(t, "on nothing", impl.DiskWrite(impl.Disk{}, 0, "x"), outside)
	sameWritten(t, "nothing behind nothing", impl.DiskWrite(impl.Disk{}, 1, ""), outside)
	all := blank(impl.MaxSectors)
	longest := strings.Repeat("x", impl.MaxBytes)
	same(t, "the longest, on the last", impl.DiskWrite(all, impl.MaxSectors-313, longest).Code, impl.OK)
	sameWritten(t, "the longest, a sector on", impl.DiskWrite(all, impl.MaxSectors-312, longest), outside)
}

func TestDiskWriteFull(t *testing.T) {
	none := impl.DiskOut{Code: impl.ErrFull}
	for _, many := range []int{1, 2, 3, 100, 312, 313} {
		text := strings.Repeat("x", min(many*impl.Sector, impl.MaxBytes))
		room, lacks := busy(350, mostCached-many), busy(350, mostCached-many+1)
		out := impl.DiskWrite(room, 7, text)
		same(t, "just room: code", out.Code, impl.OK)
		same(t, "just room: writes", len(out.Disk.Cache), mostCached)
		same(t, "just room: right", impl.DiskRight(out.Disk), true)
		sameWritten(t, "just room", out, plainWrite(room, 7, text))
		sameWritten(t, "a write too many", impl.DiskWrite(lacks, 7, text), none)
		sameWritten(t, "no room at all", impl.DiskWrite(busy(350, mostCached), 7, text), none)
		sameWritten(t, "outside, and no room", impl.DiskWrite(lacks, int64(350-many+1), text), impl.DiskOut{Code: impl.ErrRange})
	}
	brim := busy(350, mostCached)
	sameWritten(t, "nothing needs no room", impl.DiskWrite(brim, 350, ""), impl.DiskOut{Disk: brim})
	sameWritten(t, "flushed there is room", impl.DiskWrite(impl.DiskFlush(brim), 0, "x"), impl.DiskOut{Disk: cached(plainFlush(brim), writeOf(0, filled("x")))})
}

// Too long a text is refused ahead of all else, what is not right ahead of what is asked of it.
func TestDiskWriteOrderOfFaults(t *testing.T) {
	long := strings.Repeat("x", tooLong)
	disks := wrongDisks()
	disks["right"], disks["brim"], disks["none"] = blank(impl.MaxSectors), busy(350, mostCached), impl.Disk{}
	for what, d := range byName(disks) {
		for _, at := range []int64{0, 1, -1, int64(len(d.Sectors)), int64(len(d.Sectors)) + 1, math.MaxInt64, math.MinInt64} {
			sameWritten(t, what+": too long a text", impl.DiskWrite(d, at, long), impl.DiskOut{Code: impl.ErrSize})
		}
	}
	for why, d := range byName(wrongDisks()) {
		for _, at := range []int64{0, 1, -1, int64(len(d.Sectors)), int64(len(d.Sectors)) + 1, math.MaxInt64, math.MinInt64} {
			for _, text := range []string{"", "x", full('x') + "y", strings.Repeat("x", impl.MaxBytes)} {
				sameWritten(t, why, impl.DiskWrite(d, at, text), impl.DiskOut{Code: impl.ErrForm})
			}
		}
	}
}

// Reading.

func TestDiskRead(t *testing.T) {
	d := cached(diskOf(full('a'), full('b'), full('c')), writeOf(1, filled("w")), writeOf(2, full('x')), writeOf(2, filled("y")))
	read := func(what string, d impl.Disk, at int64, many int64, want string) {
		t.Helper()
		sameRead(t, what, impl.DiskRead(d, at, many), want, impl.OK)
	}
	read("what lies there", d, 0, 1, full('a'))
	read("what is written", d, 1, 1, filled("w"))
	read("what is written last", d, 2, 1, filled("y"))
	read("both", d, 0, 2, full('a')+filled("w"))
	read("the last two", d, 1, 2, filled("w")+filled("y"))
	read("all", d, 0, 3, full('a')+filled("w")+filled("y"))
	for at := range int64(4) {
		read("none", d, at, 0, "")
	}
	read("none of none", impl.Disk{}, 0, 0, "")
	read("bytes 0", blank(mostRead), 0, mostRead, strings.Repeat("\x00", mostRead*impl.Sector))
	b := string(plainDone(busy(impl.MaxSectors, mostCached), busy(impl.MaxSectors, mostCached).Cache))
	read("as many as may be", busy(impl.MaxSectors, mostCached), impl.MaxSectors-mostRead, mostRead, b[len(b)-mostRead*impl.Sector:])
	read("the last", busy(impl.MaxSectors, mostCached), impl.MaxSectors-1, 1, b[len(b)-impl.Sector:])
	read("none, behind the last", busy(impl.MaxSectors, mostCached), impl.MaxSectors, 0, "")
}

func TestDiskReadFaults(t *testing.T) {
	nums := append(edgeNums(), 2, 3, 4, mostRead, mostRead+1, impl.MaxSectors, impl.MaxSectors+1)
	for what, d := range byName(map[string]impl.Disk{"none": {}, "three": busy(3, 5), "all": busy(impl.MaxSectors, 3)}) {
		all := int64(len(d.Sectors))
		for _, n := range nums {
			if n < 0 || n > all {
				sameRead(t, what+": none from outside", impl.DiskRead(d, n, 0), "", impl.ErrRange)
				sameRead(t, what+": one from outside", impl.DiskRead(d, n, 1), "", impl.ErrRange)
				sameRead(t, what+": as many, from as far", impl.DiskRead(d, n, n), "", impl.ErrRange)
			}
			if n < 0 || n > min(all, mostRead) {
				sameRead(t, what+": too many, or too few", impl.DiskRead(d, 0, n), "", impl.ErrRange)
				sameRead(t, what+": too many, or too few, from the end", impl.DiskRead(d, all, n), "", impl.ErrRange)
			}
		}
		for many := range min(all, mostRead) {
			same(t, what+": just there", impl.DiskRead(d, all-many, many).Code, impl.OK)
			sameRead(t, what+": one not there", impl.DiskRead(d, all-many+1, many), "", impl.ErrRange)
			sameRead(t, what+": one more", impl.DiskRead(d, all-many, many+1), "", impl.ErrRange)
		}
	}
	all := busy(impl.MaxSectors, mostCached)
	same(t, "as many as may be", impl.DiskRead(all, 0, mostRead).Code, impl.OK)
	sameRead(t, "one too many, all there", impl.DiskRead(all, 0, mostRead+1), "", impl.ErrRange)
	for why, d := range byName(wrongDisks()) {
		for _, n := range []int64{0, 1, -1, mostRead, mostRead + 1, math.MaxInt64, math.MinInt64} {
			sameRead(t, why, impl.DiskRead(d, 0, n), "", impl.ErrForm)
			sameRead(t, why, impl.DiskRead(d, n, 0), "", impl.ErrForm)
			sameRead(t, why, impl.DiskRead(d, n, n), "", impl.ErrForm)
		}
	}
}

// Flushes and crashes.

func TestDiskFlush(t *testing.T) {
	three := diskOf(full('a'), full('b'), full('c'))
	flushed := func(what string, d impl.Disk, sectors ...string) {
		t.Helper()
		sameDisk(t, what, impl.DiskFlush(d), diskOf(sectors...))
	}
	flushed("none", impl.Disk{})
	flushed("nothing in the cache", three, three.Sectors...)
	flushed("a write", cached(three, writeOf(1, full('x'))), full('a'), full('x'), full('c'))
	flushed("the last of two", cached(three, writeOf(2, full('x')), writeOf(0, full('z')), writeOf(2, full('y'))), full('z'), full('b'), full('y'))
	flushed("back to what it was", cached(three, writeOf(0, full('x')), writeOf(0, full('a'))), three.Sectors...)
	flushed("bytes 0", cached(three, writeOf(1, full(0))), full('a'), full(0), full('c'))
	for i := range impl.Sector {
		turned := []byte(full('a'))
		turned[i]++
		flushed("a byte another", cached(three, writeOf(0, string(turned))), string(turned), full('b'), full('c'))
	}
	for what, d := range byName(rightDisks()) {
		got := impl.DiskFlush(d)
		sameDisk(t, what, got, plainFlush(d))
		same(t, what+": right", impl.DiskRight(got), true)
		sameDisk(t, what+": twice", impl.DiskFlush(got), got)
	}
	for why, d := range byName(wrongDisks()) {
		sameDisk(t, why, impl.DiskFlush(d), d)
	}
}

func TestDiskCrash(t *testing.T) {
	three := diskOf(full('a'), full('b'), full('c'))
	d := cached(three, writeOf(1, full('x')), writeOf(2, full('y')), writeOf(1, full('z')))
	crashed := func(what string, keep []bool, sectors ...string) {
		t.Helper()
		sameDisk(t, what, impl.DiskCrash(d, keep), diskOf(sectors...))
	}
	crashed("all lost", nil, full('a'), full('b'), full('c'))
	crashed("all lost, by an empty list", []bool{}, full('a'), full('b'), full('c'))
	crashed("all lost, each by its number", keeps(false, 3), full('a'), full('b'), full('c'))
	crashed("the first", []bool{true}, full('a'), full('x'), full('c'))
	crashed("the second", []bool{false, true}, full('a'), full('b'), full('y'))
	crashed("the last", []bool{false, false, true}, full('a'), full('z'), full('c'))
	crashed("the ends", []bool{true, false, true}, full('a'), full('z'), full('c'))
	crashed("all but the last", []bool{true, true, false}, full('a'), full('x'), full('y'))
	crashed("all", keeps(true, 3), full('a'), full('z'), full('y'))
	crashed("more than there are", keeps(true, mostCached), full('a'), full('z'), full('y'))
	crashed("only beyond the end", append(keeps(false, 3), true, true), full('a'), full('b'), full('c'))
}

// Whichever writes a crash keeps, these are done, in order, and no others.
func TestDiskCrashKeepsAny(t *testing.T) {
	r := rand.New(rand.NewSource(32))
	for what, d := range byName(rightDisks()) {
		few := min(len(d.Cache), 6)
		for bits := range 1 << few {
			keep := make([]bool, few)
			for i := range keep {
				keep[i] = bits>>i&1 == 1
			}
			sameDisk(t, what, impl.DiskCrash(d, keep), plainCrash(d, keep))
		}
		for range 10 {
			keep := make([]bool, r.Intn(mostCached+1))
			for i := range keep {
				keep[i] = r.Intn(2) == 0
			}
			got := impl.DiskCrash(d, keep)
			sameDisk(t, what+", drawn", got, plainCrash(d, keep))
			same(t, what+", drawn: right", impl.DiskRight(got), true)
			sameDisk(t, what+", drawn: once more", impl.DiskCrash(got, keep), got)
		}
	}
}

// A disk that is not right is told as it is, though what makes it wrong were lost; too long a list is refused ahead of that.
func TestDiskCrashFaults(t *testing.T) {
	disks := wrongDisks()
	for why, d := range byName(disks) {
		for _, keep := range [][]bool{nil, {}, {true}, {false, true}, keeps(true, mostCached), keeps(false, mostCached)} {
			sameDisk(t, why, impl.DiskCrash(d, keep), d)
		}
	}
	for what, d := range byName(rightDisks()) {
		disks["right: "+what] = d
	}
	for what, d := range byName(disks) {
		for _, keep := range [][]bool{keeps(true, impl.MaxList+1), keeps(false, impl.MaxList+1), keeps(true, 3*impl.MaxList)} {
			sameDisk(t, what+": too long a list", impl.DiskCrash(d, keep), impl.Disk{})
		}
	}
	brim := busy(5, mostCached)
	sameDisk(t, "as long a list as may be", impl.DiskCrash(brim, keeps(true, impl.MaxList)), plainFlush(brim))
	sameDisk(t, "all but the last", impl.DiskCrash(brim, keeps(true, impl.MaxList-1)), plainCrash(brim, keeps(true, impl.MaxList-1)))
}

// Promise 11.

// readAll reads all sectors of a disk, as many at once as may be.
func readAll(t *testing.T, what string, d impl.Disk) string {
	t.Helper()
	var b strings.Builder
	for at := int64(0); at < int64(len(d.Sectors)); at += mostRead {
		out := impl.DiskRead(d, at, min(mostRead, int64(len(d.Sectors))-at))
		same(t, what+": read", out.Code, impl.OK)
		b.WriteString(out.Text)
	}
	return b.String()
}

// writtenIsRead writes, and looks for what is written, and for what was there, before and behind a flush and a crash.
func writtenIsRead(t *testing.T, what string, d impl.Disk, at int64, text string) impl.DiskOut {
	t.Helper()
	out := impl.DiskWrite(d, at, text)
	sameWritten(t, what, out, plainWrite(d, at, text))
	if out.Code != impl.OK {
		return out
	}
	same(t, what+": right", impl.DiskRight(out.Disk), true)
	lacks := (impl.Sector - len(text)%impl.Sector) % impl.Sector
	want := plainDone(d, d.Cache)
	copy(want[at*impl.Sector:], text+strings.Repeat("\x00", lacks))
	flushed := impl.DiskFlush(out.Disk)
	same(t, what+": not flushed", readAll(t, what, out.Disk) == string(want), true)
	same(t, what+": flushed", readAll(t, what, flushed) == string(want), true)
	sameDisk(t, what+": flushed", flushed, plainCut(want))
	sameDisk(t, what+": crashed, all kept", impl.DiskCrash(out.Disk, keeps(true, len(out.Disk.Cache))), flushed)
	sameDisk(t, what+": crashed, all kept and more", impl.DiskCrash(out.Disk, keeps(true, mostCached)), flushed)
	sameDisk(t, what+": crashed behind a flush", impl.DiskCrash(flushed, nil), flushed)
	sameDisk(t, what+": all that is new lost", impl.DiskCrash(out.Disk, keeps(true, len(d.Cache))), plainFlush(d))
	return out
}

func TestWrittenIsRead(t *testing.T) {
	sizes := []int{0, 1, impl.Sector - 1, impl.Sector, impl.Sector + 1, 2*impl.Sector - 1, 2 * impl.Sector, 5*impl.Sector + 7}
	for what, d := range byName(rightDisks()) {
		all := int64(len(d.Sectors))
		for _, size := range sizes {
			pieces := int64((size + impl.Sector - 1) / impl.Sector)
			for _, at := range []int64{0, 1, all - pieces, all - pieces + 1, all} {
				writtenIsRead(t, what, d, at, anyText(size))
			}
		}
	}
	for _, size := range []int{mostRead * impl.Sector, 312*impl.Sector + 1, impl.MaxBytes - 1, impl.MaxBytes} {
		for _, at := range []int64{0, 1, 350, impl.MaxSectors - 313} {
			out := writtenIsRead(t, strconv.Itoa(size)+" bytes", busy(impl.MaxSectors, 87), at, anyText(size))
			same(t, "written", out.Code, impl.OK)
		}
	}
}

// Whatever comes one behind the other, a disk has what a run of bytes would have.
func TestDiskAsPlain(t *testing.T) {
	r := rand.New(rand.NewSource(33))
	codes := map[int64]int{}
	for range 40 {
		d := impl.DiskNew(int64(r.Intn(90)))
		for step := range 90 {
			what := "step " + strconv.Itoa(step)
			was := cloneDisk(d)
			next := d
			switch r.Intn(40) {
			case 0:
				next = impl.DiskFlush(d)
				sameDisk(t, what+": flush", next, plainFlush(d))
			case 1:
				keep := make([]bool, r.Intn(len(d.Cache)+2))
				for i := range keep {
					keep[i] = r.Intn(3) > 0
				}
				next = impl.DiskCrash(d, keep)
				sameDisk(t, what+": crash", next, plainCrash(d, keep))
			default:
				out := writtenIsRead(t, what, d, int64(r.Intn(len(d.Sectors)+3)-1), anyText(r.Intn(3000)))
				codes[out.Code]++
				if out.Code == impl.OK {
					next = out.Disk
				}
			}
			at, many := int64(r.Intn(len(d.Sectors)+3)-1), int64(r.Intn(20)-1)
			want := plainRead(d, at, many)
			sameRead(t, what+": read", impl.DiskRead(d, at, many), want.Text, want.Code)
			sameDisk(t, what+": what was handed in", d, was)
			d = next
		}
	}
	for _, code := range []int64{impl.OK, impl.ErrRange, impl.ErrFull} {
		if codes[code] < 20 {
			t.Errorf("the code %d came %d times alone: the test looks at too little", code, codes[code])
		}
	}
}

// Memory.

func TestDisksAreNotChanged(t *testing.T) {
	disks := wrongDisks()
	for what, d := range byName(rightDisks()) {
		disks["right: "+what] = d
	}
	for what, d := range byName(disks) {
		// Room behind a list lets an append be seen that stays in what was handed in.
		d.Cache = slices.Grow(d.Cache, 8)
		room := d.Cache[:cap(d.Cache)]
		for i := len(d.Cache); i < len(room); i++ {
			room[i] = writeOf(-9, "room")
		}
		was, wasRoom := cloneDisk(d), slices.Clone(room)
		keep := []bool{true, false, true}
		written := impl.DiskWrite(d, 0, "w").Disk
		flushed := impl.DiskFlush(d)
		crashed, lost := impl.DiskCrash(d, keep), impl.DiskCrash(d, nil)
		impl.DiskRead(d, 0, 1)
		impl.DiskRight(d)
		sameDisk(t, what, d, was)
		same(t, what+": the room behind", slices.Equal(room, wasRoom), true)
		same(t, what+": what is kept", slices.Equal(keep, []bool{true, false, true}), true)
		spansApart(t, what, slices.Concat(spansOfDisk(d, "handed in"), spansOfDisk(written, "written"),
			spansOfDisk(flushed, "flushed"), spansOfDisk(crashed, "crashed"), spansOfDisk(lost, "lost")))
	}
}

func TestDiskAnswersStay(t *testing.T) {
	r := rand.New(rand.NewSource(34))
	disks := []impl.Disk{impl.DiskNew(20)}
	first := []impl.Disk{blank(20)}
	for range 150 {
		d := disks[max(0, len(disks)-1-r.Intn(3))]
		next := impl.DiskWrite(d, int64(r.Intn(20)), anyText(r.Intn(impl.Sector))).Disk
		if r.Intn(6) == 0 {
			next = impl.DiskFlush(next)
		}
		disks, first = append(disks, next), append(first, cloneDisk(next))
	}
	for i := range disks {
		sameDisk(t, "disk "+strconv.Itoa(i), disks[i], first[i])
		same(t, "right "+strconv.Itoa(i), impl.DiskRight(disks[i]), true)
	}
}
