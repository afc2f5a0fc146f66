package tests

import (
	"bytes"
	"encoding/binary"
	"fmt"
	"hash/crc32"
	"math"
	"math/rand"
	"slices"
	"strconv"
	"strings"
	"testing"

	"loop.example/g00271/impl"
)

// mostSeq is the greatest number that a record has.
const mostSeq = 1000000000

func recordOf(seq int64, text string) impl.Record { return impl.Record{Seq: seq, Text: text} }

// sealed is any text with its sum behind it, as another sum tells it.
func sealed(text string) string {
	return string(binary.LittleEndian.AppendUint32([]byte(text), crc32.ChecksumIEEE([]byte(text))))
}

// recordText writes the bytes of any record, right or not, as the document says, in another way than the program.
func recordText(r impl.Record) string {
	return sealed(string(appendText(binary.AppendVarint([]byte("L"), r.Seq), r.Text)))
}

// recordOfSize is a record whose bytes are so many, no two of its text alike side by side.
func recordOfSize(t *testing.T, seq int64, size int) impl.Record {
	t.Helper()
	for lacks := range 20 {
		r := recordOf(seq, strings.Repeat("abc", size)[:max(0, size-lacks)])
		if len(recordText(r)) == size {
			return r
		}
	}
	t.Fatalf("no record has %d bytes", size)
	return impl.Record{}
}

// sectorsIn tells how many sectors a text lies on.
func sectorsIn(text string) int64 { return int64(len(text)+impl.Sector-1) / impl.Sector }

// laid is a disk on whose sectors these bytes lie, from one on, with nothing in its cache.
func laid(d impl.Disk, at int64, text string) impl.Disk {
	b := plainDone(d, d.Cache)
	copy(b[at*impl.Sector:], text)
	return plainCut(b)
}

// logOf is a disk of so many sectors with the bytes of these records one behind the other from a sector on, each at a sector of its own, and the sector behind them.
func logOf(sectors int, from int64, records ...impl.Record) (impl.Disk, int64) {
	d := blank(sectors)
	for _, r := range records {
		d = laid(d, from, recordText(r))
		from += sectorsIn(recordText(r))
	}
	return d, from
}

func tellLog(out impl.LogOut) string {
	l := []string{fmt.Sprintf("code %d, next %d, %d records", out.Code, out.Next, len(out.Records))}
	for _, r := range out.Records[:min(len(out.Records), 4)] {
		l = append(l, fmt.Sprintf("%d: %.40q of %d", r.Seq, r.Text, len(r.Text)))
	}
	return strings.Join(l, ", ")
}

func sameLog(t *testing.T, what string, got impl.LogOut, want impl.LogOut) {
	t.Helper()
	if got.Code != want.Code || got.Next != want.Next || !slices.Equal(got.Records, want.Records) {
		t.Errorf("%s: got %s; want %s", what, tellLog(got), tellLog(want))
	}
}

// sameRecords looks at all that is told of a log that is read.
func sameRecords(t *testing.T, what string, got impl.LogOut, next int64, records ...impl.Record) {
	t.Helper()
	sameLog(t, what, got, impl.LogOut{Records: records, Next: next})
}

// plainStands tells the record of that number that stands at the front of some bytes, read by another reader than the program's (no record, if none does).
func plainStands(b []byte, seq int64) []impl.Record {
	if seq > mostSeq || len(b) == 0 || b[0] != 'L' {
		return nil
	}
	at := 1
	var nums []int64
	for range 2 {
		n, many := binary.Varint(b[at:])
		if many <= 0 {
			return nil
		}
		nums, at = append(nums, n), at+many
	}
	if nums[0] != seq || nums[1] < 0 || nums[1] > impl.MaxRecord || nums[1] > int64(len(b)-at) {
		return nil
	}
	r := recordOf(seq, string(b[at:at+int(nums[1])]))
	if !bytes.HasPrefix(b, []byte(recordText(r))) {
		return nil
	}
	return []impl.Record{r}
}

// plainLog is asked of right disks, sectors that are there, and right numbers.
func plainLog(d impl.Disk, from int64, seq int64) impl.LogOut {
	b := plainDone(d, d.Cache)
	out := impl.LogOut{Next: from}
	for {
		stands := plainStands(b[out.Next*impl.Sector:], seq+int64(len(out.Records)))
		if stands == nil {
			return out
		}
		out.Records = append(out.Records, stands...)
		out.Next += sectorsIn(recordText(stands[0]))
	}
}

// Records and their bytes.

// recordSeqs are numbers of records, right and not.
func recordSeqs() (right []int64, wrong []int64) {
	for _, n := range append(someNums(300), mostSeq-1, mostSeq, mostSeq+1, -mostSeq) {
		if n >= 1 && n <= mostSeq {
			right = append(right, n)
		} else {
			wrong = append(wrong, n)
		}
	}
	return right, wrong
}

func recordSizes() (right []int, wrong []int) {
	return []int{0, 1, 57, 63, 64, 65, 128, 5999, 6000}, []int{6001, 6002, 8192, 19991, impl.MaxBytes, tooLong, 3 * tooLong}
}

func TestRecordRight(t *testing.T) {
	same(t, "MaxRecord", impl.MaxRecord, 6000)
	seqs, wrongSeqs := recordSeqs()
	sizes, wrongSizes := recordSizes()
	for _, size := range sizes {
		for _, seq := range seqs {
			same(t, fmt.Sprintf("%d, %d bytes", seq, size), impl.RecordRight(recordOf(seq, anyText(size))), true)
		}
		for _, seq := range wrongSeqs {
			same(t, fmt.Sprintf("%d, %d bytes", seq, size), impl.RecordRight(recordOf(seq, anyText(size))), false)
		}
	}
	for _, size := range wrongSizes {
		text := strings.Repeat("x", size)
		for _, seq := range []int64{1, 2, mostSeq, 0, -1, mostSeq + 1, math.MaxInt64} {
			same(t, fmt.Sprintf("%d, %d bytes", seq, size), impl.RecordRight(recordOf(seq, text)), false)
		}
	}
	same(t, "the zero one", impl.RecordRight(impl.Record{}), false)
}

func TestRecordBytes(t *testing.T) {
	same(t, "the least", impl.RecordBytes(recordOf(1, "")), "L\x02\x00\x34\xcf\xf7\xb4")
	same(t, "one", impl.RecordBytes(recordOf(5, "one")), "L\x0a\x06one\x2a\x73\xae\x23")
	same(t, "the greatest number", impl.RecordBytes(recordOf(mostSeq, "\x00\xff")), "L\x80\xa8\xd6\xb9\x07\x04\x00\xff\xd1\x16\xbc\x97")
	seqs, wrongSeqs := recordSeqs()
	sizes, wrongSizes := recordSizes()
	for _, size := range sizes {
		for _, seq := range seqs[:min(len(seqs), 60)] {
			r := recordOf(seq, anyText(size))
			same(t, fmt.Sprintf("%d, %d bytes", seq, size), impl.RecordBytes(r), recordText(r))
		}
	}
	same(t, "the longest", len(impl.RecordBytes(recordOf(mostSeq, anyText(impl.MaxRecord)))), 6012)
	for _, seq := range wrongSeqs {
		same(t, "no number of a record", impl.RecordBytes(recordOf(seq, "one")), "")
	}
	for _, size := range wrongSizes {
		same(t, "too long a text", impl.RecordBytes(recordOf(1, strings.Repeat("x", size))), "")
	}
	same(t, "the zero one", impl.RecordBytes(impl.Record{}), "")
}

// Appending.

func TestLogAppend(t *testing.T) {
	one := recordOf(5, "one")
	bytesOfOne := "L\x0a\x06one\x2a\x73\xae\x23"
	for at := range int64(4) {
		sameWritten(t, "one", impl.LogAppend(blank(4), at, one), impl.DiskOut{Disk: cached(blank(4), writeOf(at, filled(bytesOfOne)))})
	}
	lies := cached(diskOf(full('a'), full('b'), full('c')), writeOf(1, full('x')))
	sameWritten(t, "over others", impl.LogAppend(lies, 1, one), impl.DiskOut{Disk: cached(lies, writeOf(1, filled(bytesOfOne)))})
	sizes, _ := recordSizes()
	for what, d := range byName(rightDisks()) {
		all := int64(len(d.Sectors))
		for _, size := range sizes {
			r := recordOf(int64(size)+1, anyText(size))
			pieces := sectorsIn(recordText(r))
			for _, at := range []int64{0, 1, all - pieces - 1, all - pieces, all - pieces + 1, all - 1, all, all + 1, -1} {
				what := fmt.Sprintf("%s: %d bytes at %d of %d", what, size, at, all)
				sameWritten(t, what, impl.LogAppend(d, at, r), plainWrite(d, at, recordText(r)))
			}
		}
	}
}

func TestLogAppendRange(t *testing.T) {
	outside := impl.DiskOut{Code: impl.ErrRange}
	for _, size := range []int{7, 63, 64, 65, 128, 129, 192, 6012} {
		r := recordOfSize(t, mostSeq, max(size, 11))
		pieces := sectorsIn(recordText(r))
		for _, at := range edgeNums() {
			if at < 0 || at > 100-pieces {
				sameWritten(t, fmt.Sprintf("%d bytes at %d", size, at), impl.LogAppend(blank(100), at, r), outside)
			}
		}
		same(t, "the last that has room", impl.LogAppend(blank(100), 100-pieces, r).Code, impl.OK)
		sameWritten(t, "a sector on", impl.LogAppend(blank(100), 101-pieces, r), outside)
		sameWritten(t, "on nothing", impl.LogAppend(impl.Disk{}, 0, r), outside)
	}
}

func TestLogAppendFull(t *testing.T) {
	for _, size := range []int{11, 64, 65, 128, 6012} {
		r := recordOfSize(t, mostSeq, size)
		pieces := int(sectorsIn(recordText(r)))
		room, lacks := busy(350, mostCached-pieces), busy(350, mostCached-pieces+1)
		sameWritten(t, "just room", impl.LogAppend(room, 7, r), plainWrite(room, 7, recordText(r)))
		same(t, "just room: code", impl.LogAppend(room, 7, r).Code, impl.OK)
		sameWritten(t, "a write too many", impl.LogAppend(lacks, 7, r), impl.DiskOut{Code: impl.ErrFull})
		sameWritten(t, "outside, and no room", impl.LogAppend(lacks, 350, r), impl.DiskOut{Code: impl.ErrRange})
	}
}

// A record that is not right is refused ahead of all that the disk would refuse, with ErrForm also where its text is too long for any call.
func TestLogAppendForm(t *testing.T) {
	refused := impl.DiskOut{Code: impl.ErrForm}
	disks := wrongDisks()
	for why, d := range byName(disks) {
		for _, at := range []int64{0, 1, -1, int64(len(d.Sectors)), math.MaxInt64, math.MinInt64} {
			sameWritten(t, why, impl.LogAppend(d, at, recordOf(1, "one")), refused)
			sameWritten(t, why, impl.LogAppend(d, at, recordOf(mostSeq, anyText(impl.MaxRecord))), refused)
		}
	}
	disks["none"], disks["brim"], disks["blank"] = impl.Disk{}, busy(350, mostCached), blank(impl.MaxSectors)
	_, wrongSeqs := recordSeqs()
	_, wrongSizes := recordSizes()
	var wrong []impl.Record
	for _, seq := range wrongSeqs[:min(len(wrongSeqs), 40)] {
		wrong = append(wrong, recordOf(seq, "one"))
	}
	for _, size := range wrongSizes {
		wrong = append(wrong, recordOf(1, strings.Repeat("x", size)))
	}
	wrong = append(wrong, impl.Record{}, recordOf(mostSeq+1, ""), recordOf(0, strings.Repeat("x", tooLong)))
	for what, d := range byName(disks) {
		for _, r := range wrong {
			for _, at := range []int64{0, -1, int64(len(d.Sectors)), math.MaxInt64} {
				sameWritten(t, fmt.Sprintf("%s: %d, %d bytes, at %d", what, r.Seq, len(r.Text), at), impl.LogAppend(d, at, r), refused)
			}
		}
	}
}

// Reading.

func TestLogRead(t *testing.T) {
	one, two, three := recordOf(5, "one"), recordOf(6, ""), recordOf(7, "three")
	d := laid(laid(laid(blank(6), 1, "L\x0a\x06one\x2a\x73\xae\x23"), 2, recordText(two)), 3, recordText(three))
	sameRecords(t, "all", impl.LogRead(d, 1, 5), 4, one, two, three)
	sameRecords(t, "from the second on", impl.LogRead(d, 2, 6), 4, two, three)
	sameRecords(t, "the last", impl.LogRead(d, 3, 7), 4, three)
	sameRecords(t, "behind the last", impl.LogRead(d, 4, 8), 4)
	sameRecords(t, "the last sector", impl.LogRead(d, 5, 8), 5)
	sameRecords(t, "ahead of the first", impl.LogRead(d, 0, 5), 0)
	sameRecords(t, "ahead of the first, a number less", impl.LogRead(d, 0, 4), 0)
	for _, seq := range []int64{1, 4, 6, 7, 8, mostSeq} {
		sameRecords(t, "another number than "+strconv.FormatInt(seq, 10), impl.LogRead(d, 1, seq), 1)
	}
	sameRecords(t, "one alone on its disk", impl.LogRead(laid(blank(1), 0, recordText(one)), 0, 5), 1, one)
	sameRecords(t, "bytes 0", impl.LogRead(blank(1), 0, 1), 0)
	sameRecords(t, "bytes 0, the last sector there may be", impl.LogRead(blank(impl.MaxSectors), impl.MaxSectors-1, mostSeq), impl.MaxSectors-1)
}

func TestLogReadForm(t *testing.T) {
	refused := impl.LogOut{Code: impl.ErrForm}
	for why, d := range byName(wrongDisks()) {
		for _, from := range []int64{0, 1, -1, int64(len(d.Sectors)), math.MaxInt64} {
			sameLog(t, why, impl.LogRead(d, from, 1), refused)
			sameLog(t, why, impl.LogRead(d, from, 0), refused)
		}
	}
	all, end := logOf(impl.MaxSectors, impl.MaxSectors-2, recordOf(1, "one"), recordOf(2, "two"))
	same(t, "the end", end, impl.MaxSectors)
	three, _ := logOf(3, 0, recordOf(1, "one"))
	seqs, wrongSeqs := recordSeqs()
	for what, d := range byName(map[string]impl.Disk{"none": {}, "empty lists": {Sectors: []string{}}, "three": three, "all": all}) {
		for _, from := range append(edgeNums(), 2, 3, 4, impl.MaxSectors-1, impl.MaxSectors, impl.MaxSectors+1) {
			there := from >= 0 && from < int64(len(d.Sectors))
			if !there {
				sameLog(t, fmt.Sprintf("%s: no sector %d", what, from), impl.LogRead(d, from, 1), refused)
				sameLog(t, fmt.Sprintf("%s: no sector %d, no number", what, from), impl.LogRead(d, from, 0), refused)
				continue
			}
			sameLog(t, fmt.Sprintf("%s: sector %d", what, from), impl.LogRead(d, from, 1), plainLog(d, from, 1))
		}
		for _, seq := range wrongSeqs {
			sameLog(t, fmt.Sprintf("%s: no number %d", what, seq), impl.LogRead(d, 0, seq), refused)
		}
	}
	for _, seq := range seqs {
		sameLog(t, "a number", impl.LogRead(three, 0, seq), plainLog(three, 0, seq))
	}
}

// Where the next record is looked for: at the sector behind the last one that bytes of this one lie on.
func TestLogReadNext(t *testing.T) {
	for _, size := range []int{7, 8, 62, 63, 64, 65, 66, 127, 128, 129, 191, 192, 193, 640, 6008} {
		first, second := recordOfSize(t, 9, size), recordOf(10, "second")
		pieces := sectorsIn(recordText(first))
		same(t, "so many bytes", len(impl.RecordBytes(first)), size)
		what := strconv.Itoa(size) + " bytes"
		for _, from := range []int64{0, 1, 3} {
			d, end := logOf(int(from+pieces)+4, from, first, second)
			same(t, what+": end", end, from+pieces+1)
			sameRecords(t, what, impl.LogRead(d, from, 9), end, first, second)
			early := laid(d, from+pieces, full(0))
			sameRecords(t, what+": alone", impl.LogRead(early, from, 9), from+pieces, first)
			late := laid(early, from+pieces+1, recordText(second))
			sameRecords(t, what+": a sector between", impl.LogRead(late, from, 9), from+pieces, first)
		}
		d, end := logOf(int(pieces)+2, 2, first)
		sameRecords(t, what+": up to the disk's end", impl.LogRead(d, 2, 9), end, first)
		same(t, what+": the disk's end", end, int64(len(d.Sectors)))
		cut := diskOf(d.Sectors[:len(d.Sectors)-1]...)
		if pieces > 1 {
			sameRecords(t, what+": beyond the disk's end", impl.LogRead(cut, 2, 9), 2)
		}
	}
}

// The numbers rise by one from record to record, and end at the greatest.
func TestLogReadSeqs(t *testing.T) {
	for _, second := range []int64{1, 8, 9, 11, 12, mostSeq} {
		d, _ := logOf(4, 0, recordOf(9, "first"), recordOf(second, "second"))
		sameRecords(t, "behind 9 comes "+strconv.FormatInt(second, 10), impl.LogRead(d, 0, 9), 1, recordOf(9, "first"))
	}
	for _, edge := range []int64{1, 62, 63, 64, 8190, 8191, 8192, 1<<20 - 1, 1 << 20, 1<<27 - 1, 1 << 27, mostSeq - 1} {
		first, second := recordOf(edge, "first"), recordOf(edge+1, "second")
		d, _ := logOf(4, 1, first, second)
		sameRecords(t, "from "+strconv.FormatInt(edge, 10), impl.LogRead(d, 1, edge), 3, first, second)
	}
	last := recordOf(mostSeq, "last")
	for _, behind := range []int64{mostSeq + 1, 1, 0, mostSeq} {
		d, _ := logOf(4, 0, last, recordOf(behind, "none"))
		sameRecords(t, "behind the last", impl.LogRead(d, 0, mostSeq), 1, last)
	}
}

// Bytes that have a record's sum, and are yet no right record's bytes.
func wrongRecords() map[string]string {
	long := strings.Repeat("x", 6001)
	return map[string]string{
		"no mark":                       sealed("\x0a\x06one"),
		"another mark":                  sealed("M\x0a\x06one"),
		"a store's mark":                sealed("S\x0a\x06one"),
		"a small mark":                  sealed("l\x0a\x06one"),
		"the mark twice":                sealed("LL\x0a\x06one"),
		"a byte ahead":                  "\x00" + recordText(recordOf(5, "one")),
		"a needless byte in its number": sealed("L\x8a\x00\x06one"),
		"a number below 0":              sealed("L\x09\x06one"),
		"another number":                recordText(recordOf(6, "one")),
		"number 0":                      recordText(recordOf(0, "one")),
		"a needless byte in its length": sealed("L\x0a\x86\x00one"),
		"needless bytes in its length":  sealed("L\x0a\x86\x80\x80\x00one"),
		"a length below 0":              sealed("L\x0a\x05one"),
		"a length of -1":                sealed("L\x0a\x01"),
		"too short a length":            sealed("L\x0a\x04one"),
		"too long a length":             sealed("L\x0a\x08one"),
		"a length without an end":       sealed("L\x0a" + strings.Repeat("\x80", 10)),
		"the greatest length":           sealed("L\x0a\xfe\xff\xff\xff\xff\xff\xff\xff\xff\x01one"),
		"the least length":              sealed("L\x0a\xff\xff\xff\xff\xff\xff\xff\xff\xff\x01one"),
		"no sum":                        "L\x0a\x06one",
		"a sum of bytes 0":              "L\x0a\x06one\x00\x00\x00\x00x",
		"the sum's bytes turned round":  turnedSum(recordText(recordOf(5, "one"))),
		"a sum of the text alone":       "L\x0a\x06" + sealed("one"),
		"a sum of all but the mark":     "L" + sealed("\x0a\x06one"),
		"a text a byte too long":        recordText(recordOf(5, long)),
		"a text far too long":           recordText(recordOf(5, long+long)),
		"a text too long for any call":  recordText(recordOf(5, strings.Repeat("x", tooLong))),
	}
}

// turnedSum has the four bytes at the end in the other order.
func turnedSum(text string) string {
	b := []byte(text)
	slices.Reverse(b[len(b)-4:])
	return string(b)
}

func TestLogReadWrong(t *testing.T) {
	before, behind := recordOf(4, "before"), recordOf(6, "behind")
	for why, text := range byName(wrongRecords()) {
		d := laid(laid(blank(330), 0, recordText(before)), 1, text)
		if at := 1 + sectorsIn(text); at < 330 {
			d = laid(d, at, recordText(behind))
		}
		sameRecords(t, why, impl.LogRead(d, 1, 5), 1)
		sameRecords(t, why+": behind another", impl.LogRead(d, 0, 4), 1, before)
		sameLog(t, why+": as plain", impl.LogRead(d, 0, 4), plainLog(d, 0, 4))
	}
}

// A record with a byte another does not stand; what is behind its bytes in its last sector may be anything.
func TestLogReadTurnedByte(t *testing.T) {
	for _, size := range []int{7, 30, 64, 65, 130} {
		r := recordOfSize(t, 9, size)
		before := recordOf(8, "before")
		d, end := logOf(6, 0, before, r)
		b := plainDone(d, nil)
		for at := impl.Sector; at < len(b); at++ {
			for _, turn := range []byte{1, 2, 4, 8, 16, 32, 64, 128, 255, b[at] ^ 'x'} {
				b[at] ^= turn
				got := impl.LogRead(plainCut(b), 0, 8)
				b[at] ^= turn
				what := fmt.Sprintf("%d bytes: byte %d turned by %d", size, at-impl.Sector, turn)
				if at < impl.Sector+size && turn != 0 {
					sameRecords(t, what, got, 1, before)
				} else {
					sameRecords(t, what, got, end, before, r)
				}
			}
		}
	}
}

func TestLogReadBytesBehind(t *testing.T) {
	for _, size := range []int{7, 30, 63, 65, 130} {
		r := recordOfSize(t, 9, size)
		for _, fill := range []string{"\xff", "L", "\x00L", recordText(recordOf(10, "")), recordText(r)} {
			text := recordText(r) + strings.Repeat(fill, impl.Sector)
			whole := sectorsIn(recordText(r))
			d := laid(blank(5), 1, text[:whole*impl.Sector])
			sameRecords(t, fmt.Sprintf("%d bytes, then %q", size, fill), impl.LogRead(d, 1, 9), 1+whole, r)
		}
	}
}

// Not a sector's first byte: nothing is looked for there.
func TestLogReadWithinSector(t *testing.T) {
	r := recordText(recordOf(9, "one"))
	for ahead := 1; ahead < impl.Sector; ahead++ {
		d := laid(blank(3), 0, strings.Repeat("\x00", ahead)+r)
		sameRecords(t, "within a sector", impl.LogRead(d, 0, 9), 0)
		sameRecords(t, "within a sector, from the next", impl.LogRead(d, 1, 9), 1)
	}
}

// What is in the cache is read as if it lay on its sectors.
func TestLogReadCache(t *testing.T) {
	one, two, long := recordOf(5, "one"), recordOf(6, "two"), recordOfSize(t, 7, 200)
	d, end := logOf(8, 1, one, two, long)
	over := cached(d, writeOf(2, full(0)))
	sameRecords(t, "written over", impl.LogRead(over, 1, 5), 2, one)
	sameRecords(t, "written back", impl.LogRead(cached(over, writeOf(2, filled(recordText(two)))), 1, 5), end, one, two, long)
	sameRecords(t, "its third sector", impl.LogRead(cached(d, writeOf(5, full('x'))), 1, 5), 3, one, two)
	other := recordOf(6, "other")
	sameRecords(t, "another one", impl.LogRead(cached(d, writeOf(2, filled(recordText(other)))), 1, 5), end, one, other, long)
	var all impl.Disk
	for i := range d.Sectors {
		all.Sectors = append(all.Sectors, full('x'))
		all.Cache = append(all.Cache, writeOf(int64(len(d.Sectors)-1-i), d.Sectors[len(d.Sectors)-1-i]))
	}
	sameRecords(t, "all in the cache", impl.LogRead(all, 1, 5), end, one, two, long)
}

// There may be more records than a list that is handed in has items, and as long ones as may be.
func TestLogReadMany(t *testing.T) {
	var many []impl.Record
	for i := range impl.MaxSectors {
		many = append(many, recordOf(int64(i)+mostSeq-impl.MaxSectors+1, strconv.Itoa(i)))
	}
	d, end := logOf(impl.MaxSectors, 0, many...)
	same(t, "the end", end, impl.MaxSectors)
	sameRecords(t, "on each sector one", impl.LogRead(d, 0, many[0].Seq), end, many...)
	sameRecords(t, "from the middle on", impl.LogRead(d, 123, many[123].Seq), end, many[123:]...)
	var long []impl.Record
	for i := range 7 {
		long = append(long, recordOf(mostSeq-9+int64(i), anyText(impl.MaxRecord)))
	}
	d, end = logOf(impl.MaxSectors, impl.MaxSectors-7*94, long...)
	same(t, "long ones: the end", end, impl.MaxSectors)
	sameRecords(t, "long ones", impl.LogRead(d, impl.MaxSectors-7*94, mostSeq-9), end, long...)
}

// drawRecord draws one whose text may well have bytes 0 alone in a sector.
func drawRecord(r *rand.Rand, seq int64) impl.Record {
	text := anyText(r.Intn(400))
	if r.Intn(3) == 0 {
		text = strings.Repeat("\x00", r.Intn(300))
	}
	return recordOf(seq, text)
}

// Whatever lies on a disk, what is read is what another reader reads.
func TestLogReadAsPlain(t *testing.T) {
	r := rand.New(rand.NewSource(41))
	counts := map[int]int{}
	for range 3000 {
		d := drawDisk(r)
		for len(d.Sectors) < 6 {
			d = drawDisk(r)
		}
		seq := int64(1 + r.Intn(70))
		from := int64(r.Intn(len(d.Sectors)))
		at := from
		for i := range 5 {
			text := recordText(drawRecord(r, seq+int64(i)))
			if r.Intn(12) == 0 {
				text = turnBytes(r, text)
			}
			out := impl.DiskWrite(d, at, text)
			if out.Code != impl.OK {
				break
			}
			d, at = out.Disk, at+sectorsIn(text)
			if r.Intn(4) == 0 {
				d = plainFlush(d)
			}
		}
		want := plainLog(d, from, seq)
		counts[len(want.Records)]++
		sameLog(t, "drawn", impl.LogRead(d, from, seq), want)
	}
	for many := range 4 {
		if counts[many] < 30 {
			t.Errorf("%d records came %d times alone: the test looks at too little", many, counts[many])
		}
	}
}

// Promise 12.

// appended appends records one behind the other, each where the log told that the next one is looked for, and looks for it behind those ahead.
func appended(t *testing.T, d impl.Disk, from int64, flush func(int) bool, records ...impl.Record) impl.Disk {
	t.Helper()
	next := from
	for i, r := range records {
		out := impl.LogAppend(d, next, r)
		sameWritten(t, "appended", out, plainWrite(d, next, recordText(r)))
		d = out.Disk
		if flush(i) {
			d = impl.DiskFlush(d)
		}
		got := impl.LogRead(d, from, records[0].Seq)
		next += sectorsIn(recordText(r))
		sameRecords(t, fmt.Sprintf("record %d is read behind those ahead", i), got, next, records[:i+1]...)
		if next < int64(len(d.Sectors)) {
			sameRecords(t, "behind it", impl.LogRead(d, next, r.Seq+1), next)
		}
	}
	return d
}

func TestAppendedIsRead(t *testing.T) {
	r := rand.New(rand.NewSource(42))
	for range 60 {
		seq := 1 + int64(r.Intn(200))
		var records []impl.Record
		for i := range 1 + r.Intn(25) {
			records = append(records, drawRecord(r, seq+int64(i)))
		}
		d := blank(300)
		if r.Intn(2) == 0 {
			d = busy(300, r.Intn(50))
		}
		appended(t, d, int64(r.Intn(60)), func(int) bool { return r.Intn(3) == 0 }, records...)
	}
	for _, size := range []int{0, 1, 56, 57, 58, 5999, impl.MaxRecord} {
		appended(t, blank(400), 200, func(int) bool { return false }, recordOf(1, anyText(size)), recordOf(2, anyText(impl.MaxRecord)))
	}
}

// losses are lists of what is kept of so many writes: all there are of few ones, else each alone lost, each alone kept, cut off at each place, and some drawn.
func losses(r *rand.Rand, many int) [][]bool {
	var l [][]bool
	if many <= 7 {
		for bits := range 1 << many {
			keep := make([]bool, many)
			for i := range keep {
				keep[i] = bits>>i&1 == 1
			}
			l = append(l, keep)
		}
		return l
	}
	for i := range many {
		lost, kept := keeps(true, many), keeps(false, many)
		lost[i], kept[i] = false, true
		drawn := keeps(true, many)
		for range 1 + r.Intn(3) {
			drawn[r.Intn(many)] = false
		}
		l = append(l, lost, kept, keeps(true, i), drawn)
	}
	return append(l, keeps(true, many), nil)
}

// torn appends a record behind those ahead, which are flushed, and crashes: it is read whole, just where all that was lost was as it lay, or not at all.
func torn(t *testing.T, r *rand.Rand, what string, d impl.Disk, from int64, ahead []impl.Record, last impl.Record) {
	t.Helper()
	next := from
	for _, a := range ahead {
		d = impl.DiskFlush(impl.LogAppend(d, next, a).Disk)
		next += sectorsIn(recordText(a))
	}
	seq := last.Seq - int64(len(ahead))
	out := impl.LogAppend(d, next, last)
	same(t, what+": appended", out.Code, impl.OK)
	whole := append(slices.Clone(ahead), last)
	end := next + sectorsIn(recordText(last))
	for _, keep := range losses(r, len(out.Disk.Cache)) {
		crashed := impl.DiskCrash(out.Disk, keep)
		got := impl.LogRead(crashed, from, seq)
		there := strings.HasPrefix(string(plainDone(crashed, nil)[next*impl.Sector:]), recordText(last))
		if there {
			sameRecords(t, fmt.Sprintf("%s: whole, kept %v", what, keep), got, end, whole...)
		} else {
			sameRecords(t, fmt.Sprintf("%s: not at all, kept %v", what, keep), got, next, ahead...)
		}
		same(t, what+": whole, if all is kept", there || slices.Contains(keep, false) || len(keep) < len(out.Disk.Cache), true)
		sameLog(t, what+": as plain", got, plainLog(crashed, from, seq))
	}
}

func TestTornRecord(t *testing.T) {
	r := rand.New(rand.NewSource(43))
	ahead := []impl.Record{recordOf(8, "first"), recordOf(9, anyText(100))}
	older, _ := logOf(120, 3, recordOf(1, "old"), recordOf(2, anyText(90)), recordOf(3, anyText(700)), recordOf(4, "old"), recordOf(5, "old"), recordOf(11, "later"))
	disks := map[string]impl.Disk{"blank": blank(120), "busy": plainFlush(busy(120, 300)), "an older log": older, "bytes": plainCut([]byte(anyText(120 * impl.Sector)))}
	for what, d := range byName(disks) {
		for _, size := range []int{8, 63, 64, 65, 128, 129, 320, 448, 500, 6008} {
			torn(t, r, fmt.Sprintf("%s: %d bytes", what, size), d, 3, ahead, recordOfSize(t, 10, size))
			torn(t, r, fmt.Sprintf("%s: %d bytes, none ahead", what, size), d, 3, nil, recordOfSize(t, 10, size))
		}
		zeros := recordOf(10, strings.Repeat("\x00", 300))
		torn(t, r, what+": bytes 0", d, 3, ahead, zeros)
		torn(t, r, what+": bytes 0 in between", d, 3, ahead, recordOf(10, "a"+zeros.Text+"b"))
		for range 20 {
			torn(t, r, what+": drawn", d, 3, ahead, drawRecord(r, 10))
		}
	}
}

// A lost sector of bytes 0 on bytes 0 is no loss: the record is read whole without it; any other loss lets it go.
func TestTornBytesZero(t *testing.T) {
	last := recordOf(10, strings.Repeat("\x00", 300))
	d := impl.LogAppend(blank(10), 2, last).Disk
	same(t, "writes", len(d.Cache), 5)
	sameRecords(t, "bytes 0 lost", impl.LogRead(impl.DiskCrash(d, []bool{true, false, false, false, true}), 2, 10), 7, last)
	sameRecords(t, "the front lost", impl.LogRead(impl.DiskCrash(d, []bool{false, true, true, true, true}), 2, 10), 2)
	sameRecords(t, "the sum lost", impl.LogRead(impl.DiskCrash(d, []bool{true, true, true, true, false}), 2, 10), 2)
}

// Of a record that is lost whole the one that lay there is read, if it has its number: what was left there is another one.
func TestTornOverAnother(t *testing.T) {
	old, fresh := recordOf(10, strings.Repeat("old", 40)), recordOf(10, strings.Repeat("new", 40))
	lies, _ := logOf(6, 1, recordOf(9, "ahead"), old)
	d := impl.LogAppend(lies, 2, fresh).Disk
	same(t, "writes", len(d.Cache), 2)
	sameRecords(t, "kept", impl.LogRead(impl.DiskCrash(d, []bool{true, true}), 1, 9), 4, recordOf(9, "ahead"), fresh)
	sameRecords(t, "lost", impl.LogRead(impl.DiskCrash(d, nil), 1, 9), 4, recordOf(9, "ahead"), old)
	sameRecords(t, "the front kept", impl.LogRead(impl.DiskCrash(d, []bool{true}), 1, 9), 2, recordOf(9, "ahead"))
	sameRecords(t, "the end kept", impl.LogRead(impl.DiskCrash(d, []bool{false, true}), 1, 9), 2, recordOf(9, "ahead"))
}

// Of many that were never flushed those ahead of the first torn one are read, and none behind it, though it be whole.
func TestTornAmongOthers(t *testing.T) {
	records := []impl.Record{recordOfSize(t, 1, 20), recordOfSize(t, 2, 150), recordOfSize(t, 3, 64), recordOfSize(t, 4, 65), recordOfSize(t, 5, 30)}
	d := appended(t, blank(20), 2, func(int) bool { return false }, records...)
	same(t, "writes", len(d.Cache), 8)
	ends := []int{1, 4, 5, 7, 8}
	for bits := range 1 << 8 {
		keep := make([]bool, 8)
		for i := range keep {
			keep[i] = bits>>i&1 == 1
		}
		first := slices.Index(append(slices.Clone(keep), false), false)
		whole, next := 0, int64(2)
		for whole < len(ends) && ends[whole] <= first {
			next = 2 + int64(ends[whole])
			whole++
		}
		sameRecords(t, fmt.Sprintf("kept %v", keep), impl.LogRead(impl.DiskCrash(d, keep), 2, 1), next, records[:whole]...)
	}
}

// Memory.

func TestLogChangesNothing(t *testing.T) {
	disks := wrongDisks()
	for what, d := range byName(rightDisks()) {
		disks["right: "+what] = d
	}
	lies, _ := logOf(20, 1, recordOf(1, "one"), recordOf(2, anyText(200)), recordOf(3, "three"))
	disks["a log"] = cached(lies, writeOf(6, filled(recordText(recordOf(4, "four")))))
	for what, d := range byName(disks) {
		// Room behind a list lets an append be seen that stays in what was handed in.
		d.Cache = slices.Grow(d.Cache, 8)
		room := d.Cache[:cap(d.Cache)]
		for i := len(d.Cache); i < len(room); i++ {
			room[i] = writeOf(-9, "room")
		}
		was, wasRoom := cloneDisk(d), slices.Clone(room)
		written := impl.LogAppend(d, 0, recordOf(1, "one")).Disk
		again := impl.LogAppend(d, 0, recordOf(1, "one")).Disk
		one, other := impl.LogRead(d, 1, 1).Records, impl.LogRead(d, 1, 1).Records
		sameDisk(t, what, d, was)
		same(t, what+": the room behind", slices.Equal(room, wasRoom), true)
		spansApart(t, what, slices.Concat(spansOfDisk(d, "handed in"), spansOfDisk(written, "written"), spansOfDisk(again, "written again"),
			[]span{spanOf(one, "read"), spanOf(other, "read again")}))
	}
}

func TestLogAnswersStay(t *testing.T) {
	d := blank(40)
	var disks, first []impl.Disk
	var logs, firstLogs []impl.LogOut
	for i := range int64(30) {
		d = impl.LogAppend(d, i, recordOf(i+1, strconv.FormatInt(i, 10))).Disk
		out := impl.LogRead(d, 0, 1)
		disks, first = append(disks, d), append(first, cloneDisk(d))
		logs, firstLogs = append(logs, out), append(firstLogs, impl.LogOut{Records: slices.Clone(out.Records), Next: out.Next})
		out.Records = append(out.Records, recordOf(-1, "another"))
	}
	for i := range disks {
		sameDisk(t, "disk "+strconv.Itoa(i), disks[i], first[i])
		sameLog(t, "log "+strconv.Itoa(i), logs[i], firstLogs[i])
		same(t, "records "+strconv.Itoa(i), len(logs[i].Records), i+1)
	}
}
