package tests

import (
	"bytes"
	"encoding/binary"
	"fmt"
	"math"
	"math/rand"
	"slices"
	"strconv"
	"strings"
	"testing"

	"loop.example/g00271/impl"
)

// mostStoreSeq is the greatest Seq of a right store, areaBytes how many bytes an area has room for.
const (
	mostStoreSeq = 900000000
	areaBytes    = 6400
)

func storeOf(d impl.Disk, db impl.Db, seq int64, next int64) impl.Store {
	return impl.Store{Disk: d, Db: db, Seq: seq, Next: next}
}

func stored(s impl.Store) impl.StoreOut { return impl.StoreOut{Store: s} }

// freshStore has bytes 0 alone, and an empty database.
func freshStore() impl.Store { return storeOf(blank(700), impl.Db{}, 1, 200) }

// sameStore looks at all that is told.
func sameStore(t *testing.T, what string, got impl.StoreOut, want impl.StoreOut) {
	t.Helper()
	tell := func(out impl.StoreOut) string {
		return fmt.Sprintf("code %d, Seq %d, Next %d, %s", out.Code, out.Store.Seq, out.Store.Next, brief(tellDb(out.Store.Db)))
	}
	if tell(got) != tell(want) || tellDb(got.Store.Db) != tellDb(want.Store.Db) {
		t.Errorf("%s: got %s; want %s", what, tell(got), tell(want))
	}
	sameDisk(t, what, got.Store.Disk, want.Store.Disk)
}

// refusedStore looks that nothing is told but the code.
func refusedStore(t *testing.T, what string, got impl.StoreOut, code int64) {
	t.Helper()
	sameStore(t, what, got, impl.StoreOut{Code: code})
}

func cloneStore(s impl.Store) impl.Store {
	return storeOf(cloneDisk(s.Disk), cloneDb(s.Db), s.Seq, s.Next)
}

func spansOfStore(s impl.Store, what string) []span {
	return append(spansOfDisk(s.Disk, what), spansOfDb(s.Db, what)...)
}

// areaText writes the text of any area, right or not, as the document says, in another way than the program.
func areaText(number int64, d impl.Db) string { return areaOf(number, dbText(d)) }

func areaOf(number int64, body string) string {
	return sealed(string(appendText(binary.AppendVarint([]byte("S"), number), body)))
}

// writtenTo is a disk whose sectors ahead of one have bytes, those from it on bytes 0; its areas are not good.
func writtenTo(next int64) impl.Disk {
	return diskOf(append(slices.Clone(busy(700, 0).Sectors[:next]), blank(int(700-next)).Sectors...)...)
}

// diskWith has these texts in its areas (nothing of an empty one), and a log of these records.
func diskWith(first string, second string, records ...impl.Record) impl.Disk {
	d, _ := logOf(700, 200, records...)
	return laid(laid(d, 0, first), 100, second)
}

// wipedFrom is a disk with bytes 0 in all sectors from one on.
func wipedFrom(d impl.Disk, next int64) impl.Disk {
	return laid(d, next, strings.Repeat("\x00", (len(d.Sectors)-int(next))*impl.Sector))
}

// opsRecord is a record of ops.
func opsRecord(seq int64, ops ...impl.Op) impl.Record { return recordOf(seq, opsText(ops)) }

// The plain functions do what the document says on one long run of bytes, in another way than the program.

// plainArea reads what is kept whole in the area that begins at a sector (the number 0, if it is not good).
func plainArea(b []byte, from int64) (int64, impl.Db) {
	b = b[from*impl.Sector:][:areaBytes]
	number, many := binary.Varint(b[1:])
	if many <= 0 || number < 1 || number > mostSeq {
		return 0, impl.Db{}
	}
	at := 1 + many
	size, many := binary.Varint(b[at:])
	at += many
	if many <= 0 || size < 0 || size > int64(len(b)-at) {
		return 0, impl.Db{}
	}
	out := impl.DbRead(string(b[at:][:size]))
	if out.Code != impl.OK || !bytes.HasPrefix(b, []byte(areaText(number, out.Db))) {
		return 0, impl.Db{}
	}
	return number, out.Db
}

// plainKept tells the good area with the greater number, and the sector at which the other one begins.
func plainKept(b []byte) (int64, impl.Db, int64) {
	first, firstDb := plainArea(b, 0)
	second, secondDb := plainArea(b, 100)
	switch {
	case first == 0 && second == 0:
		return 0, impl.Db{}, 0
	case second > first:
		return second, secondDb, 0
	}
	return first, firstDb, 100
}

// plainCommit is asked of right stores, and lists that are not too long.
func plainCommit(s impl.Store, l []impl.Op) impl.StoreOut {
	done := plainTx(s.Db, l)
	if done.Code != impl.OK {
		return impl.StoreOut{Code: done.Code}
	}
	if len(opsText(l)) > impl.MaxRecord {
		return impl.StoreOut{Code: impl.ErrSize}
	}
	record := recordText(opsRecord(s.Seq, l...))
	if int(s.Next)*impl.Sector+len(record) > 700*impl.Sector {
		return impl.StoreOut{Code: impl.ErrFull}
	}
	return stored(storeOf(laid(s.Disk, s.Next, record), done.Db, s.Seq+1, s.Next+sectorsIn(record)))
}

// plainCheckpoint is asked of right stores.
func plainCheckpoint(s impl.Store) impl.StoreOut {
	text := areaText(s.Seq-1, s.Db)
	switch {
	case s.Seq == 1:
		return impl.StoreOut{Code: impl.ErrState}
	case len(text) > areaBytes:
		return impl.StoreOut{Code: impl.ErrFull}
	}
	b := plainDone(s.Disk, nil)
	_, _, other := plainKept(b)
	clear(b[(other+sectorsIn(text)-1)*impl.Sector:][:impl.Sector])
	copy(b[other*impl.Sector:], text)
	clear(b[200*impl.Sector:])
	return stored(storeOf(plainCut(b), s.Db, s.Seq, 200))
}

// plainRecover is asked of right disks of 700 sectors.
func plainRecover(d impl.Disk) impl.StoreOut {
	b := plainDone(d, d.Cache)
	number, db, _ := plainKept(b)
	s := storeOf(impl.Disk{}, db, number+1, 200)
	for {
		stands := plainStands(b[s.Next*impl.Sector:], s.Seq)
		if stands == nil {
			break
		}
		ops := impl.OpsRead(stands[0].Text)
		done := plainTx(s.Db, ops.Ops)
		if ops.Code != impl.OK || done.Code != impl.OK {
			break
		}
		s.Db, s.Seq, s.Next = done.Db, s.Seq+1, s.Next+sectorsIn(recordText(stands[0]))
	}
	clear(b[s.Next*impl.Sector:])
	s.Disk = plainCut(b)
	return stored(s)
}

// Stores to try.

// shopOps make the pet shop's pets, and cats.
func shopOps() [][]impl.Op {
	return [][]impl.Op{
		opsOf(createOp(pets()), insertOp("pets", pet(1, "ada")...), insertOp("pets", pet(2, "rex")...)),
		opsOf(createOp(named(pets(), "cats"))),
		opsOf(insertOp("cats", pet(7, "tom")...), updateOp("pets", pet(2, "max")...), deleteOp("pets", intOf(1))),
	}
}

// committed is the store behind these commits, plainly.
func committed(s impl.Store, lists ...[]impl.Op) impl.Store {
	for _, l := range lists {
		out := plainCommit(s, l)
		if out.Code != impl.OK {
			panic("a commit of the test's own is refused")
		}
		s = out.Store
	}
	return s
}

func rightStores() map[string]impl.Store {
	shop := petShop()
	kept := areaText(4, shop)
	right := map[string]impl.Store{
		"fresh":                     freshStore(),
		"empty lists":               storeOf(impl.Disk{Sectors: blank(700).Sectors, Cache: []impl.Write{}}, impl.Db{Tables: []impl.Table{}}, 1, 200),
		"the last Seq":              storeOf(blank(700), impl.Db{}, mostStoreSeq, 200),
		"the last but one":          storeOf(blank(700), shop, mostStoreSeq-1, 200),
		"not at the log's front":    storeOf(blank(700), shop, 5, 201),
		"all ahead of Next bytes":   storeOf(writtenTo(333), shop, 77, 333),
		"bytes in the areas alone":  storeOf(writtenTo(200), shop, 2, 200),
		"Next the last sector":      storeOf(writtenTo(699), shop, 9, 699),
		"a full log":                storeOf(writtenTo(700), shop, 9, 700),
		"a full log of bytes 0":     storeOf(blank(700), shop, 9, 700),
		"the byte ahead of Next":    storeOf(laid(blank(700), 399, strings.Repeat("\x00", 63)+"x"), shop, 9, 400),
		"its disk tells another":    storeOf(diskWith(kept, "", opsRecord(5, createOp(least()))), impl.Db{}, 3, 201),
		"an area":                   storeOf(diskWith(kept, ""), shop, 5, 200),
		"the second area":           storeOf(diskWith("", kept), shop, 5, 200),
		"both areas":                storeOf(diskWith(areaText(3, impl.Db{}), kept), shop, 5, 200),
		"a commit":                  committed(freshStore(), shopOps()[0]),
		"commits":                   committed(freshStore(), shopOps()...),
		"commits behind an area":    committed(storeOf(diskWith("", kept), shop, 5, 200), opsOf(createOp(least())), opsOf(deleteOp("cats", intOf(1)))),
		"commits behind two":        committed(storeOf(diskWith(kept, kept), shop, 5, 200), opsOf(createOp(least())), opsOf(deleteOp("cats", intOf(1)))),
		"more than a text has":      storeOf(blank(700), dbOfSize(2*impl.MaxBytes), 9, 300),
		"as many tables as may be":  storeOf(writtenTo(222), dbOf(smallTables(impl.MaxTables)...), 9, 222),
		"a table as full as may be": storeOf(writtenTo(222), dbOf(manyPets(impl.MaxRows)), 9, 222),
	}
	return right
}

// otherSeqs and otherNexts are of no right store.
func otherSeqs() []int64 {
	return []int64{0, -1, mostStoreSeq + 1, mostSeq, mostSeq + 1, 1<<32 + 1, math.MaxInt64, math.MinInt64}
}

func otherNexts() []int64 {
	return []int64{199, 100, 1, 0, -1, 701, 1 << 32, 1<<32 + 300, math.MaxInt64, math.MinInt64}
}

// otherDisks are of no store, each for one reason, which its name tells; those of wrongDisks are not even right.
func otherDisks() map[string]impl.Disk {
	other := map[string]impl.Disk{"no sectors": {}, "a sector": blank(1), "up to the log": blank(200), "as far as written": blank(300), "a sector too few": blank(699), "a sector too many": blank(701)}
	for why, d := range wrongDisks() {
		other["not right: "+why] = d
	}
	for _, at := range []int64{0, 99, 100, 199, 200, 299, 300, 699} {
		for _, size := range []int{0, impl.Sector - 1, impl.Sector + 1, 2 * impl.Sector} {
			d := blank(700)
			d.Sectors[at] = strings.Repeat("\x00", size)
			other[fmt.Sprintf("sector %d of %d bytes", at, size)] = d
		}
	}
	for _, w := range []impl.Write{{}, writeOf(700, full(0)), writeOf(-1, full(0)), writeOf(5, full(0)[1:])} {
		other[fmt.Sprintf("a write at %d of %d bytes", w.At, len(w.Text))] = cached(blank(700), w)
	}
	return other
}

// wrongStores are not right, each for one reason, which its name tells.
func wrongStores() map[string]impl.Store {
	shop := petShop()
	wrong := map[string]impl.Store{"zero": {}}
	for why, d := range otherDisks() {
		wrong["disk: "+why] = storeOf(d, shop, 5, 300)
	}
	for _, at := range []int64{0, 299, 300, 699} {
		wrong["a write in the cache, of "+strconv.FormatInt(at, 10)] = storeOf(cached(writtenTo(300), writeOf(at, full('x'))), shop, 5, 300)
		wrong["a write of bytes 0, of "+strconv.FormatInt(at, 10)] = storeOf(cached(writtenTo(300), writeOf(at, full(0))), shop, 5, 300)
	}
	wrong["what lies there is written again"] = storeOf(cached(blank(700), writeOf(0, full(0))), shop, 5, 300)
	wrong["the bytes behind Next wiped in the cache"] = storeOf(cached(writtenTo(301), writeOf(300, full(0))), shop, 5, 300)
	for why, d := range wrongDbs() {
		wrong["database: "+why] = storeOf(writtenTo(300), d, 5, 300)
	}
	for _, seq := range otherSeqs() {
		wrong["Seq "+strconv.FormatInt(seq, 10)] = storeOf(blank(700), shop, seq, 300)
	}
	for _, next := range otherNexts() {
		wrong["Next "+strconv.FormatInt(next, 10)] = storeOf(blank(700), shop, 5, next)
	}
	for _, at := range []int{0, 1, 63, 64, 12345, 400*impl.Sector - 2, 400*impl.Sector - 1} {
		for _, lies := range []string{"\x01", "x", "\x80", "\xff"} {
			wrong[fmt.Sprintf("a byte %q at %d behind Next", lies, at)] = storeOf(laid(blank(700), 300, strings.Repeat("\x00", at)+lies), shop, 5, 300)
		}
	}
	wrong["a byte behind Next, the last sector"] = storeOf(writtenTo(700), shop, 5, 699)
	wrong["a byte behind Next, at the log's front"] = storeOf(writtenTo(201), shop, 5, 200)
	return wrong
}

// What is right, and what is new.

func TestStoreNew(t *testing.T) {
	same(t, "AreaSize", impl.AreaSize, 100)
	same(t, "LogFrom", impl.LogFrom, 200)
	sameStore(t, "new", stored(impl.StoreNew()), stored(freshStore()))
	same(t, "right", impl.StoreRight(impl.StoreNew()), true)
	spansApart(t, "two new ones", append(spansOfStore(impl.StoreNew(), "one"), spansOfStore(impl.StoreNew(), "other")...))
}

func TestStoreRight(t *testing.T) {
	for what, s := range byName(rightStores()) {
		same(t, what, impl.StoreRight(s), true)
	}
	for why, s := range byName(wrongStores()) {
		same(t, why, impl.StoreRight(s), false)
	}
	for _, d := range byName(rightDbs()) {
		same(t, "any database", impl.StoreRight(storeOf(writtenTo(300), d, 5, 300)), true)
	}
}

// Commits.

func TestCommit(t *testing.T) {
	first := filled(sealed("L\x02\x1a\x02\x02\x14\x02a\x02\x02a\x02\x00\x02\x00\x00"))
	second := filled(sealed("L\x04\x0e\x02\x04\x02a\x04\x01\x01"))
	one := storeOf(laid(blank(700), 200, first), dbOf(tableOf(least())), 2, 201)
	two := storeOf(laid(one.Disk, 201, second), dbOf(tableOf(least(), valuesOf(boolOf(1)))), 3, 202)
	sameStore(t, "the first", impl.Commit(freshStore(), opsOf(createOp(least()))), stored(one))
	sameStore(t, "the second", impl.Commit(one, opsOf(insertOp("a", boolOf(1)))), stored(two))
	for what, s := range byName(rightStores()) {
		r := rand.New(rand.NewSource(91))
		for range 8 {
			l := drawOps(r, s.Db, 1+r.Intn(5))
			sameStore(t, what, impl.Commit(s, l), plainCommit(s, l))
		}
		for _, l := range shopOps() {
			sameStore(t, what, impl.Commit(s, l), plainCommit(s, l))
		}
	}
}

// updatesOf are so many updates of a long row, of just so many bytes together.
func updatesOf(t *testing.T, many int, size int) []impl.Op {
	t.Helper()
	var l []impl.Op
	for range many {
		l = append(l, updateOp("long", longRow(0)...))
	}
	lacks := size - len(opsText(l))
	for _, op := range l {
		lacks = lengthen(op.Row, lacks)
	}
	if len(opsText(l)) != size {
		t.Fatalf("no %d updates have %d bytes", many, size)
	}
	return l
}

// longStore has a table with a long row.
func longStore(seq int64, next int64) impl.Store {
	return storeOf(writtenTo(next), dbOf(tableOf(longSchema(), longRow(0))), seq, next)
}

func TestCommitSize(t *testing.T) {
	for _, many := range []int{4, 5, 19, 20} {
		for _, size := range []int{5999, 6000} {
			l := updatesOf(t, many, size)
			out := impl.Commit(longStore(7, 300), l)
			same(t, "as much as may be", out.Code, impl.OK)
			same(t, "as much as may be: Next", out.Store.Next, 300+94)
			sameStore(t, "as much as may be", out, plainCommit(longStore(7, 300), l))
		}
		for _, size := range []int{6001, 6002, 6100} {
			refusedStore(t, "a byte too many", impl.Commit(longStore(7, 300), updatesOf(t, many, size)), impl.ErrSize)
		}
	}
	for _, size := range []int{impl.MaxBytes - 1, impl.MaxBytes, impl.MaxBytes + 1, 35000} {
		refusedStore(t, "far too many", impl.Commit(longStore(7, 300), updatesOf(t, impl.MaxOps, size)), impl.ErrSize)
	}
}

// A record takes as many sectors as its bytes lie on, and there must be so many.
func TestCommitFull(t *testing.T) {
	small := storeOf(blank(700), dbOf(tableOf(least())), 8191, 0)
	long := longStore(8191, 200)
	type try struct {
		s impl.Store
		l []impl.Op
	}
	tries := []try{{small, opsOf(insertOp("a", boolOf(1)))}, {small, opsOf(createOp(named(least(), "b")))}}
	for _, size := range []int{135, 183, 184, 185, 247, 248, 249, 1000, 1464, 1465, 5999, 6000} {
		tries = append(tries, try{long, updatesOf(t, 1+size/1500, size)})
	}
	for _, x := range tries {
		pieces := sectorsIn(recordText(opsRecord(8191, x.l...)))
		for _, next := range []int64{200, 201, 700 - pieces - 1, 700 - pieces} {
			s := storeOf(writtenTo(next), x.s.Db, 8191, next)
			out := impl.Commit(s, x.l)
			same(t, "room: code", out.Code, impl.OK)
			same(t, "room: Next", out.Store.Next, next+pieces)
			sameStore(t, "room", out, plainCommit(s, x.l))
		}
		for _, next := range []int64{700 - pieces + 1, 699, 700} {
			if next+pieces > 700 {
				refusedStore(t, fmt.Sprintf("%d sectors from %d on", pieces, next), impl.Commit(storeOf(writtenTo(next), x.s.Db, 8191, next), x.l), impl.ErrFull)
			}
		}
	}
}

func TestCommitLastSeq(t *testing.T) {
	s := storeOf(blank(700), impl.Db{}, mostStoreSeq-1, 200)
	for _, seq := range []int64{mostStoreSeq, mostStoreSeq + 1} {
		l := opsOf(createOp(named(least(), "t"+strconv.FormatInt(seq, 10))))
		out := impl.Commit(s, l)
		sameStore(t, "up to the last Seq", out, plainCommit(s, l))
		same(t, "Seq", out.Store.Seq, seq)
		s = out.Store
	}
	refusedStore(t, "behind the last Seq", impl.Commit(s, opsOf(createOp(least()))), impl.ErrForm)
	refusedStore(t, "behind the last Seq", impl.Checkpoint(s), impl.ErrForm)
}

// What DbTx refuses is refused with its code.
func TestCommitRefused(t *testing.T) {
	for _, next := range []int64{300, 700} {
		s := storeOf(writtenTo(next), petShop(), 5, next)
		for code, ops := range refusedOps() {
			for _, op := range ops {
				refusedStore(t, tellOps(opsOf(op)), impl.Commit(s, opsOf(op)), code)
				refusedStore(t, "the last: "+tellOps(opsOf(op)), impl.Commit(s, opsOf(createOp(least()), insertOp("a", boolOf(1)), op)), code)
			}
		}
	}
	full := storeOf(writtenTo(300), dbOf(smallTables(impl.MaxTables)...), 5, 300)
	refusedStore(t, "a table too many", impl.Commit(full, opsOf(createOp(pets()))), impl.ErrFull)
	full.Db = dbOf(manyPets(impl.MaxRows))
	refusedStore(t, "a row too many", impl.Commit(full, opsOf(insertOp("pets", petNamed(1)...))), impl.ErrFull)
}

func TestCommitForm(t *testing.T) {
	long := slices.Repeat(opsOf(deleteOp("pets", intOf(1))), impl.MaxList+1)
	good := opsOf(createOp(named(least(), "birds")))
	for why, s := range byName(wrongStores()) {
		refusedStore(t, why, impl.Commit(s, good), impl.ErrForm)
		refusedStore(t, why+", and refused", impl.Commit(s, opsOf(insertOp("dogs"))), impl.ErrForm)
		refusedStore(t, why+", and no ops", impl.Commit(s, nil), impl.ErrForm)
		refusedStore(t, why+", and too long a list", impl.Commit(s, long), impl.ErrSize)
	}
	s := storeOf(writtenTo(300), petShop(), 5, 300)
	for _, wrong := range []map[string][]impl.Op{wrongOps(), wrongBeside()} {
		for why, l := range byName(wrong) {
			code := int64(impl.ErrForm)
			if len(l) > impl.MaxList {
				code = impl.ErrSize
			}
			refusedStore(t, why, impl.Commit(s, l), code)
		}
	}
	refusedStore(t, "too long a list", impl.Commit(s, long), impl.ErrSize)
	refusedStore(t, "too long a list of no ops", impl.Commit(s, make([]impl.Op, impl.MaxList+1)), impl.ErrSize)
	refusedStore(t, "as long a list as may be", impl.Commit(s, long[:impl.MaxList]), impl.ErrForm)
}

// Of several faults the first one in the document's order is told.
func TestCommitOrderOfFaults(t *testing.T) {
	full := longStore(7, 700)
	much := updatesOf(t, 5, 6001)
	refusedStore(t, "no ops, no room", impl.Commit(full, nil), impl.ErrForm)
	refusedStore(t, "refused, too much", impl.Commit(longStore(7, 300), append(much, insertOp("no"))), impl.ErrNone)
	refusedStore(t, "refused, too much, no room", impl.Commit(full, append(much, insertOp("long"))), impl.ErrType)
	refusedStore(t, "refused, no room", impl.Commit(full, opsOf(createOp(longSchema()))), impl.ErrThere)
	refusedStore(t, "too much, no room", impl.Commit(full, much), impl.ErrSize)
	refusedStore(t, "no room", impl.Commit(full, updatesOf(t, 5, 6000)), impl.ErrFull)
	refusedStore(t, "too much, little room", impl.Commit(longStore(7, 699), much), impl.ErrSize)
}

// Checkpoints.

func TestCheckpoint(t *testing.T) {
	one := committed(freshStore(), opsOf(createOp(least())))
	text := sealed("S\x02\x1a\x02\x14\x02a\x02\x02a\x02\x00\x02\x00\x00\x00")
	kept := storeOf(laid(blank(700), 0, text), one.Db, 2, 200)
	sameStore(t, "the first", impl.Checkpoint(one), stored(kept))
	sameStore(t, "the second", impl.Checkpoint(kept), stored(storeOf(laid(kept.Disk, 100, text), one.Db, 2, 200)))
	for what, s := range byName(rightStores()) {
		sameStore(t, what, impl.Checkpoint(s), plainCheckpoint(s))
	}
	for what, d := range byName(rightDbs()) {
		s := storeOf(writtenTo(300), d, 5, 300)
		sameStore(t, what, impl.Checkpoint(s), plainCheckpoint(s))
	}
	refusedStore(t, "nothing committed", impl.Checkpoint(impl.StoreNew()), impl.ErrState)
}

// Into which area a checkpoint goes: never into the good one with the greater number.
func TestCheckpointArea(t *testing.T) {
	shop := petShop()
	tries := []struct{ first, second, goes int64 }{
		{0, 0, 0}, {5, 0, 100}, {0, 5, 0}, {5, 5, 100}, {5, 6, 0}, {6, 5, 100}, {1, 1, 100}, {63, 64, 0}, {64, 63, 100},
		{1, mostSeq, 0}, {mostSeq, 1, 100}, {mostSeq, mostSeq, 100}, {mostSeq, mostSeq - 1, 100}, {mostSeq - 1, mostSeq, 0},
		{mostSeq + 1, 5, 0}, {5, mostSeq + 1, 100}, {mostSeq + 1, mostSeq + 1, 0}, {-1, 5, 0}, {5, -1, 100}, {-1, -2, 0},
	}
	for _, x := range tries {
		for _, seq := range []int64{2, 5, 6, 7, 65, mostStoreSeq} {
			what := fmt.Sprintf("areas %d and %d, Seq %d", x.first, x.second, seq)
			d := laid(laid(writtenTo(300), 0, areaText(x.first, impl.Db{})), 100, areaText(x.second, shop))
			s := storeOf(d, dbOf(tableOf(least())), seq, 300)
			out := impl.Checkpoint(s)
			text := areaText(seq-1, s.Db)
			want := laid(writtenTo(200), 0, strings.Join(d.Sectors[:200], ""))
			want = laid(want, x.goes, filled(text))
			same(t, what+": a sector alone", sectorsIn(text), 1)
			sameStore(t, what, out, stored(storeOf(want, s.Db, seq, 200)))
			sameStore(t, what+", plainly", out, plainCheckpoint(s))
		}
	}
	for why, text := range byName(wrongAreas()) {
		good := areaText(5, shop)
		for _, areas := range [][2]string{{text, ""}, {"", text}, {text, text}, {text, good}, {good, text}} {
			s := storeOf(laid(laid(blank(700), 0, areas[0][:min(areaBytes, len(areas[0]))]), 100, areas[1]), shop, 9, 700)
			sameStore(t, why, impl.Checkpoint(s), plainCheckpoint(s))
		}
	}
}

// kept is a database whose text in an area, by that number, has so many bytes.
func kept(t *testing.T, number int64, size int) impl.Db {
	t.Helper()
	for lacks := 4; lacks < 20; lacks++ {
		if d := dbOfRows(20, size-lacks); len(areaText(number, d)) == size {
			return d
		}
	}
	t.Fatalf("no text of an area has %d bytes", size)
	return impl.Db{}
}

func TestCheckpointFull(t *testing.T) {
	for _, seq := range []int64{2, 64, 65, 8193, mostStoreSeq} {
		for _, size := range []int{6335, 6336, 6337, 6399, 6400} {
			d := kept(t, seq-1, size)
			for _, disk := range []impl.Disk{writtenTo(300), laid(writtenTo(300), 0, areaText(seq-2, impl.Db{}))} {
				s := storeOf(disk, d, seq, 300)
				out := impl.Checkpoint(s)
				same(t, "room: code", out.Code, impl.OK)
				sameStore(t, "room", out, plainCheckpoint(s))
				sameStore(t, "room, found", impl.Recover(out.Store.Disk), out)
			}
		}
		for _, size := range []int{6401, 6402, 6464, 6465, 12800} {
			refusedStore(t, "a byte too many", impl.Checkpoint(storeOf(writtenTo(300), kept(t, seq-1, size), seq, 300)), impl.ErrFull)
		}
		for _, size := range []int{6393, 6400, 8191, 8192, impl.MaxBytes - 15, impl.MaxBytes - 4, impl.MaxBytes - 3, impl.MaxBytes, impl.MaxBytes + 1, 2 * impl.MaxBytes, 4 * impl.MaxBytes} {
			rows := 20
			if size > 2*impl.MaxBytes {
				rows = impl.MaxRows
			}
			refusedStore(t, fmt.Sprintf("a database of %d bytes", size), impl.Checkpoint(storeOf(writtenTo(300), dbOfRows(rows, size), seq, 300)), impl.ErrFull)
		}
	}
	same(t, "as much as may be", len(areaText(1, kept(t, 1, 6400))), areaBytes)
}

func TestCheckpointOrderOfFaults(t *testing.T) {
	for why, s := range byName(wrongStores()) {
		refusedStore(t, why, impl.Checkpoint(s), impl.ErrForm)
		if s.Seq == 5 {
			s.Seq = 1
			refusedStore(t, why+", and nothing committed", impl.Checkpoint(s), impl.ErrForm)
		}
	}
	long := dbOfSize(2 * impl.MaxBytes)
	refusedStore(t, "nothing committed, no room", impl.Checkpoint(storeOf(writtenTo(300), long, 1, 300)), impl.ErrState)
	refusedStore(t, "no room, not right", impl.Checkpoint(storeOf(writtenTo(300), long, 5, 299)), impl.ErrForm)
	refusedStore(t, "nothing committed, bytes on the disk", impl.Checkpoint(storeOf(writtenTo(300), petShop(), 1, 300)), impl.ErrState)
}

// Finding again.

// wrongAreas are bytes with which no good area begins, each for one reason, which its name tells.
func wrongAreas() map[string]string {
	body := dbText(petShop())
	text := areaOf(5, body)
	num := func(n int64) string { return string(binary.AppendVarint(nil, n)) }
	size, more := num(int64(len(body))), num(int64(len(body))+1)
	wrong := map[string]string{
		"nothing":                         "",
		"the mark alone":                  "S",
		"bytes of one kind":               strings.Repeat("S", areaBytes),
		"no mark":                         sealed("\x0a" + size + body),
		"a log's mark":                    sealed("L\x0a" + size + body),
		"a small mark":                    sealed("s\x0a" + size + body),
		"the mark twice":                  sealed("SS\x0a" + size + body),
		"a byte ahead":                    "\x00" + text,
		"a sector ahead":                  full(0) + text,
		"number 0":                        areaOf(0, body),
		"number -1":                       areaOf(-1, body),
		"a number too great":              areaOf(mostSeq+1, body),
		"the greatest number":             areaOf(math.MaxInt64, body),
		"the least number":                areaOf(math.MinInt64, body),
		"a needless byte in its number":   sealed("S\x8a\x00" + size + body),
		"a number without an end":         sealed("S" + strings.Repeat("\x80", 10) + size + body),
		"no length":                       sealed("S\x0a" + body),
		"a needless byte in its length":   sealed("S\x0a" + size[:1] + string([]byte{size[1] | 128}) + "\x00" + body),
		"too short a length":              sealed("S\x0a" + num(int64(len(body))-1) + body),
		"too long a length":               sealed("S\x0a" + more + body),
		"a length beyond its sum":         sealed("S\x0a" + num(int64(len(body))+4) + body),
		"a length beyond the area":        sealed("S\x0a" + num(areaBytes) + body),
		"a length below 0":                sealed("S\x0a\x05" + body),
		"the greatest length":             sealed("S\x0a" + num(math.MaxInt64) + body),
		"the least length":                sealed("S\x0a" + num(math.MinInt64) + body),
		"no sum":                          text[:len(text)-4],
		"another byte in its sum":         text[:len(text)-1] + string([]byte{text[len(text)-1] + 1}),
		"the sum's bytes turned round":    turnedSum(text),
		"a sum of the database alone":     "S\x0a" + size + sealed(body),
		"a sum of all but the mark":       "S" + sealed("\x0a"+size+body),
		"no database":                     areaOf(5, ""),
		"no bytes of a database":          areaOf(5, "\x01"),
		"a table that lacks":              areaOf(5, "\x02"),
		"a byte more in the database":     areaOf(5, body+"\x00"),
		"a byte fewer in the database":    areaOf(5, body[:len(body)-1]),
		"a needless byte in the database": areaOf(5, string([]byte{body[0] | 128})+"\x00"+body[1:]),
		"ops for a database":              areaOf(5, opsText(shopOps()[0])),
		"too many bytes for an area":      areaOf(5, dbText(dbOfRows(20, 6500))),
		"a byte too many for an area":     areaOf(5, dbText(dbOfRows(20, 6393))),
	}
	for why, d := range wrongDbs() {
		if b := dbText(d); strings.HasPrefix(why, "behind another") && len(b) < 1000 && !plainDbRight(seenInBytes(d)) {
			wrong["database: "+why] = areaOf(5, b)
		}
	}
	return wrong
}

func TestRecover(t *testing.T) {
	shop := petShop()
	ops := shopOps()
	found := func(what string, d impl.Disk, db impl.Db, seq int64, next int64) {
		t.Helper()
		out := impl.Recover(d)
		sameStore(t, what, out, stored(storeOf(wipedFrom(d, next), db, seq, next)))
		sameStore(t, what+", plainly", out, plainRecover(d))
	}
	two, three := committed(freshStore(), ops[0], ops[1]).Db, committed(freshStore(), ops...).Db
	log := []impl.Record{opsRecord(1, ops[0]...), opsRecord(2, ops[1]...), opsRecord(3, ops[2]...)}
	end := int64(200)
	for _, r := range log {
		end += sectorsIn(recordText(r))
	}
	found("bytes 0", blank(700), impl.Db{}, 1, 200)
	found("bytes that are nothing", busy(700, 0), impl.Db{}, 1, 200)
	found("the log alone", diskWith("", "", log...), three, 4, end)
	found("the log from its second on", diskWith("", "", log[1:]...), impl.Db{}, 1, 200)
	found("an area alone", diskWith(areaText(7, shop), ""), shop, 8, 200)
	found("the other alone", diskWith("", areaText(7, shop)), shop, 8, 200)
	found("the first is greater", diskWith(areaText(8, two), areaText(7, shop)), two, 9, 200)
	found("the second is greater", diskWith(areaText(7, shop), areaText(8, two)), two, 9, 200)
	found("of like numbers the first", diskWith(areaText(7, shop), areaText(7, two)), shop, 8, 200)
	found("an area of nothing", diskWith(areaText(7, impl.Db{}), areaText(6, shop)), impl.Db{}, 8, 200)
	found("an area, and the log behind it", diskWith("", areaText(2, two), log[2]), three, 4, 200+sectorsIn(recordText(log[2])))
	found("an area, and the log with what it has", diskWith("", areaText(2, two), log...), two, 3, 200)
	found("the log behind the lesser", diskWith(areaText(9, shop), areaText(2, two), log[2]), shop, 10, 200)
	found("the log behind a number too many", diskWith(areaText(1, shop), "", log[2]), shop, 2, 200)
	found("the first number", diskWith(areaText(1, shop), ""), shop, 2, 200)
	found("the last number", diskWith(areaText(mostSeq, shop), areaText(mostSeq-1, two)), shop, mostSeq+1, 200)
	found("behind the last number", diskWith(areaText(mostSeq, shop), "", opsRecord(mostSeq+1, createOp(least()))), shop, mostSeq+1, 200)
	found("the last number in the log", diskWith(areaText(mostSeq-1, shop), "", opsRecord(mostSeq, createOp(least())), opsRecord(mostSeq+1, createOp(named(least(), "b")))),
		dbOf(append([]impl.Table{tableOf(least())}, shop.Tables...)...), mostSeq+1, 201)
	same(t, "above a store's last Seq", impl.StoreRight(impl.Recover(diskWith(areaText(mostStoreSeq, shop), "")).Store), false)
}

// A record that is no ops', or whose ops are refused, ends the log, and all from it on is wiped.
func TestRecoverRefused(t *testing.T) {
	shop := petShop()
	ahead := opsOf(createOp(least()))
	behind := opsRecord(8, createOp(named(least(), "b")))
	first := opsRecord(6, ahead...)
	want := dbOf(append([]impl.Table{tableOf(least())}, shop.Tables...)...)
	ends := func(what string, r impl.Record) {
		t.Helper()
		d := diskWith(areaText(5, shop), "", first, r, behind)
		d = laid(d, 690, full('x'))
		sameStore(t, what, impl.Recover(d), stored(storeOf(diskWith(areaText(5, shop), "", first), want, 7, 201)))
		sameStore(t, what+", the first", impl.Recover(diskWith("", areaText(6, shop), r, behind)), stored(storeOf(diskWith("", areaText(6, shop)), shop, 7, 200)))
	}
	for code, ops := range refusedOps() {
		for _, op := range ops {
			ends(fmt.Sprintf("refused with %d: %s", code, tellOps(opsOf(op))), opsRecord(7, op))
			ends(fmt.Sprintf("refused with %d behind another: %s", code, tellOps(opsOf(op))), opsRecord(7, createOp(named(least(), "c")), op))
		}
	}
	ends("another number", opsRecord(8, createOp(named(least(), "c"))))
	ends("a number again", opsRecord(6, createOp(named(least(), "c"))))
	for _, text := range []string{"", "\x00", "\x02", "ops", "\x02\x04\x02a", "\x02\x04\x02a\x00\x00", "\x82\x00\x08\x08pets\x12" + bytesOf(valuesOf(intOf(1))), dbText(shop), anyText(6000)} {
		ends("no ops: "+brief(text), recordOf(7, text))
	}
	for why, l := range byName(wrongOps()) {
		if b := opsText(l); len(b) <= impl.MaxRecord {
			ends(why, recordOf(7, b))
		}
	}
}

func TestRecoverForm(t *testing.T) {
	for why, d := range byName(otherDisks()) {
		refusedStore(t, why, impl.Recover(d), impl.ErrForm)
	}
	for what, d := range byName(rightDisks()) {
		if len(d.Sectors) != 700 {
			refusedStore(t, what, impl.Recover(d), impl.ErrForm)
		}
	}
	refusedStore(t, "a sector too few, in the cache more", impl.Recover(busy(699, mostCached)), impl.ErrForm)
	sameStore(t, "as many writes as may be", impl.Recover(busy(700, mostCached)), plainRecover(busy(700, mostCached)))
	refusedStore(t, "a write too many", impl.Recover(busy(700, mostCached+1)), impl.ErrForm)
}

// A good area begins with its text, whatever lies behind that; of bytes that are none the number is not looked at.
func TestRecoverAreas(t *testing.T) {
	shop := petShop()
	good := areaText(1, shop)
	same(t, "a byte too many", len(wrongAreas()["a byte too many for an area"]), areaBytes+1)
	for why, text := range byName(wrongAreas()) {
		for _, areas := range [][2]string{{text, ""}, {"", text}, {text, text}} {
			d := diskWith(areas[0], areas[1])
			sameStore(t, why, impl.Recover(d), stored(storeOf(wipedFrom(d, 200), impl.Db{}, 1, 200)))
		}
		for _, areas := range [][2]string{{text, good}, {good, text}} {
			d := diskWith(areas[0], areas[1])
			sameStore(t, why+", beside a good one", impl.Recover(d), stored(storeOf(wipedFrom(d, 200), shop, 2, 200)))
		}
	}
	for _, size := range []int{6337, 6399, 6400} {
		d := kept(t, 77, size)
		for _, at := range []int64{0, 100} {
			whole := laid(writtenTo(200), at, areaText(77, d))
			sameStore(t, "as much as may be", impl.Recover(whole), stored(storeOf(whole, d, 78, 200)))
		}
	}
}

func TestRecoverTurnedByte(t *testing.T) {
	shop, small := petShop(), dbOf(tableOf(least(), valuesOf(boolOf(1))))
	text := areaText(9, small)
	for at := range text {
		for _, turn := range []byte{1, 2, 8, 64, 128, 255} {
			what := fmt.Sprintf("byte %d turned by %d", at, turn)
			b := []byte(text + "anything")
			b[at] ^= turn
			d := laid(writtenTo(200), 100, string(b))
			sameStore(t, what, impl.Recover(d), stored(storeOf(d, impl.Db{}, 1, 200)))
			d = laid(d, 0, areaText(3, shop))
			sameStore(t, what+", beside another", impl.Recover(d), stored(storeOf(d, shop, 4, 200)))
		}
	}
	d := laid(laid(writtenTo(200), 0, text+"anything"), 100, areaText(9, shop)+text)
	sameStore(t, "bytes behind", impl.Recover(d), stored(storeOf(d, small, 10, 200)))
}

// What is in the cache counts as if it lay on the sectors, and lies there afterwards.
func TestRecoverCache(t *testing.T) {
	shop := petShop()
	area, record := areaText(5, shop), recordText(opsRecord(6, createOp(least())))
	write := func(d impl.Disk, at int64, text string) impl.Disk { return plainWrite(d, at, text).Disk }
	whole := laid(laid(blank(700), 100, area), 200, record)
	flushed := impl.Recover(whole)
	same(t, "flushed", flushed.Store.Seq, 7)
	tries := map[string]impl.Disk{
		"an area":   write(laid(blank(700), 200, record), 100, area),
		"a record":  write(laid(blank(700), 100, area), 200, record),
		"both":      write(write(blank(700), 200, record), 100, area),
		"and again": write(write(write(blank(700), 200, recordText(opsRecord(6, createOp(pets())))), 100, area), 200, record),
		"bytes 0":   write(whole, 333, full(0)),
		"bytes":     write(whole, 333, full('x')),
	}
	for what, d := range byName(tries) {
		sameStore(t, what, impl.Recover(d), flushed)
		lost := plainCrash(d, nil)
		sameStore(t, what+", lost", impl.Recover(lost), plainRecover(lost))
	}
	gone := write(whole, 200, full(0))
	sameStore(t, "a record written over", impl.Recover(gone), stored(storeOf(laid(blank(700), 100, area), shop, 6, 200)))
	gone = write(whole, 100, full(0))
	sameStore(t, "an area written over", impl.Recover(gone), stored(storeOf(wipedFrom(plainFlush(gone), 200), impl.Db{}, 1, 200)))
}

// A log may have as many records as it has sectors.
func TestRecoverFullLog(t *testing.T) {
	d := dbOf(tableOf(named(least(), "n"), valuesOf(boolOf(0))))
	var records []impl.Record
	for i := range int64(500) {
		kind := []int64{impl.OpUpdate, impl.OpDelete, impl.OpInsert}[i%3]
		records = append(records, opsRecord(i+41, impl.Op{Kind: kind, Table: "n", Row: valuesOf(boolOf(0))}))
	}
	for _, many := range []int{499, 500} {
		whole := diskWith("", areaText(40, d), records[:many]...)
		out := impl.Recover(whole)
		same(t, "Next", out.Store.Next, int64(200+many))
		same(t, "Seq", out.Store.Seq, int64(41+many))
		sameStore(t, "a full log", out, plainRecover(whole))
	}
	full := impl.Recover(diskWith("", areaText(40, d), records...)).Store
	refusedStore(t, "on a full log", impl.Commit(full, opsOf(createOp(pets()))), impl.ErrFull)
	after := impl.Checkpoint(full)
	sameStore(t, "a checkpoint of a full log", after, plainCheckpoint(full))
	same(t, "and a commit", impl.Commit(after.Store, opsOf(createOp(pets()))).Code, impl.OK)
}

// drawText turns bytes of a text now and then.
func drawText(r *rand.Rand, text string) string {
	if r.Intn(8) == 0 {
		return turnBytes(r, text)
	}
	return text
}

// Whatever lies on a disk, what is found there is what another reader finds.
func TestRecoverAsPlain(t *testing.T) {
	r := rand.New(rand.NewSource(92))
	seqs, records := map[int64]int{}, map[int64]int{}
	dbs := rightDbs()
	var small []impl.Db
	for _, d := range byName(dbs) {
		if len(dbText(d)) < 1000 {
			small = append(small, d)
		}
	}
	for range 1500 {
		d := blank(700)
		if r.Intn(3) == 0 {
			d = busy(700, 0)
		}
		low := int64(1 + r.Intn(100))
		db, seq := impl.Db{}, int64(1)
		for at := range int64(2) {
			if r.Intn(4) > 0 {
				number, other := low+int64(r.Intn(3)), small[r.Intn(len(small))]
				d = plainWrite(d, 100*at, drawText(r, areaText(number, other))).Disk
				db, seq = other, number+1
			}
		}
		next := int64(200)
		for range r.Intn(6) {
			l := drawOps(r, db, 1+r.Intn(4))
			text := drawText(r, recordText(opsRecord(seq, l...)))
			d = plainWrite(d, next, text).Disk
			if done := plainTx(db, l); done.Code == impl.OK {
				db = done.Db
			}
			next, seq = next+sectorsIn(text), seq+1
			if r.Intn(3) == 0 {
				d = plainFlush(d)
			}
		}
		want := plainRecover(d)
		seqs[min(want.Store.Seq, 2)]++
		records[min(want.Store.Next-200, 4)]++
		sameStore(t, "drawn", impl.Recover(d), want)
	}
	if seqs[1] < 50 || seqs[2] < 500 || records[0] < 100 || records[1] < 50 || records[4] < 50 {
		t.Errorf("Seqs %v, records %v: the test looks at too little", seqs, records)
	}
}

// Promise 13.

// found fails the test, unless a store's disk tells it.
func found(t *testing.T, what string, s impl.Store) {
	t.Helper()
	sameStore(t, what+": found", impl.Recover(s.Disk), stored(s))
}

func TestCommittedIsFound(t *testing.T) {
	for what, start := range byName(toldStores()) {
		found(t, what, start)
		s := start
		for i, l := range shopOps() {
			out := impl.Commit(s, l)
			sameStore(t, what, out, plainCommit(s, l))
			if out.Code != impl.OK {
				break
			}
			s = out.Store
			found(t, fmt.Sprintf("%s, commit %d", what, i), s)
			same(t, what+": right", impl.StoreRight(s), s.Seq <= mostStoreSeq)
			if s.Seq > mostStoreSeq {
				break
			}
		}
	}
	s := impl.Commit(impl.StoreNew(), opsOf(createOp(longSchema()), insertOp("long", longRow(0)...))).Store
	for _, size := range []int{135, 1464, 6000, 200, 5999, 247} {
		out := impl.Commit(s, updatesOf(t, 1+size/1500, size))
		same(t, "a long one: code", out.Code, impl.OK)
		s = out.Store
		found(t, "a long one", s)
	}
}

// toldStores are right stores that their disks tell.
func toldStores() map[string]impl.Store {
	told := map[string]impl.Store{
		"at the last Seq":  storeOf(diskWith("", areaText(mostStoreSeq-1, impl.Db{})), impl.Db{}, mostStoreSeq, 200),
		"an area as great": storeOf(diskWith(areaText(6, dbOfRows(20, 6392)), ""), dbOfRows(20, 6392), 7, 200),
	}
	for what, s := range byName(rightStores()) {
		if out := plainRecover(s.Disk); tellDb(out.Store.Db) == tellDb(s.Db) && out.Store.Seq == s.Seq && out.Store.Next == s.Next {
			told[what] = s
		}
	}
	return told
}

// Promise 14.

// tornCommit lets the power go while a commit is on its way: it is found as a whole, just where all that was lost was as it lay, or not at all; either way the store goes on from there.
func tornCommit(t *testing.T, r *rand.Rand, what string, s impl.Store, l []impl.Op) {
	t.Helper()
	done := impl.Commit(s, l)
	same(t, what+": committed", done.Code, impl.OK)
	record := recordText(opsRecord(s.Seq, l...))
	way := impl.LogAppend(s.Disk, s.Next, opsRecord(s.Seq, l...)).Disk
	sameStore(t, what+": in the cache", impl.Recover(way), done)
	for _, keep := range losses(r, len(way.Cache)) {
		crashed := impl.DiskCrash(way, keep)
		want := s
		if strings.HasPrefix(string(plainDone(crashed, nil)[s.Next*impl.Sector:]), record) {
			want = done.Store
		}
		got := impl.Recover(crashed)
		sameStore(t, fmt.Sprintf("%s, kept %v", what, keep), got, stored(want))
		again := opsOf(createOp(named(least(), "again")))
		next := impl.Commit(got.Store, again)
		sameStore(t, what+": goes on", next, plainCommit(want, again))
		if next.Code == impl.OK {
			found(t, what+": goes on", next.Store)
		}
	}
}

func TestTornCommit(t *testing.T) {
	r := rand.New(rand.NewSource(93))
	for what, s := range byName(toldStores()) {
		if s.Next > 600 || s.Seq == mostStoreSeq {
			continue
		}
		many := 0
		for many < 3 {
			if l := drawOps(r, s.Db, 1+r.Intn(4)); plainCommit(s, l).Code == impl.OK {
				tornCommit(t, r, what, s, l)
				many++
			}
		}
	}
	start := committed(freshStore(), opsOf(createOp(longSchema()), insertOp("long", longRow(0)...)))
	for _, size := range []int{135, 183, 184, 248, 320, 440, 1000, 6000} {
		l := updatesOf(t, 1+size/1500, size)
		tornCommit(t, r, strconv.Itoa(size)+" bytes", start, l)
		tornCommit(t, r, strconv.Itoa(size)+" bytes, behind a checkpoint", impl.Checkpoint(committed(start, l)).Store, l)
	}
}

// What a lost attempt left behind its first sector is never read, though the next commit ends just ahead of it.
func TestLostAttemptIsGone(t *testing.T) {
	s := committed(freshStore(), opsOf(createOp(longSchema()), insertOp("long", longRow(0)...), createOp(least())))
	small := opsOf(insertOp("a", boolOf(1)))
	later := recordText(opsRecord(s.Seq+1, deleteOp("long", intOf(0))))
	left := laid(s.Disk, s.Next+1, later)
	same(t, "not right", impl.StoreRight(storeOf(left, s.Db, s.Seq, s.Next)), false)
	refusedStore(t, "not right", impl.Commit(storeOf(left, s.Db, s.Seq, s.Next), small), impl.ErrForm)
	back := impl.Recover(left)
	sameStore(t, "found without it", back, stored(s))
	out := impl.Commit(back.Store, small)
	sameStore(t, "a commit ahead of it", out, plainCommit(s, small))
	found(t, "a commit ahead of it", out.Store)
	same(t, "one sector", out.Store.Next, s.Next+1)
}

// Promise 15.

// tornCheckpoint lets the power go while the area is written, and while the log is wiped: the database and Seq stay.
func tornCheckpoint(t *testing.T, r *rand.Rand, what string, s impl.Store) {
	t.Helper()
	done := impl.Checkpoint(s)
	sameStore(t, what+": done", done, plainCheckpoint(s))
	same(t, what+": code", done.Code, impl.OK)
	sameStore(t, what+": changes nothing but where the log goes on", stored(storeOf(s.Disk, done.Store.Db, done.Store.Seq, s.Next)), stored(s))
	found(t, what, done.Store)
	number, _, other := plainKept(plainDone(s.Disk, nil))
	text := areaText(s.Seq-1, s.Db)
	way := impl.DiskWrite(s.Disk, other, text).Disk
	for _, keep := range losses(r, len(way.Cache)) {
		crashed := impl.DiskCrash(way, keep)
		want := storeOf(crashed, s.Db, s.Seq, s.Next)
		// A checkpoint with nothing committed since the last one has that one's number: either area then tells all.
		if n, _ := plainArea(plainDone(crashed, nil), other); n == s.Seq-1 && n > number {
			want = storeOf(wipedFrom(crashed, 200), s.Db, s.Seq, 200)
		}
		got := impl.Recover(crashed)
		sameStore(t, fmt.Sprintf("%s, kept %v", what, keep), got, stored(want))
		if r.Intn(8) == 0 {
			goesOn(t, what, got.Store)
		}
	}
	wiping(t, r, what, impl.DiskFlush(way), done.Store)
}

// goesOn looks that behind a crash a commit and a checkpoint are taken, and found.
func goesOn(t *testing.T, what string, s impl.Store) {
	t.Helper()
	l := opsOf(createOp(named(least(), "again")))
	out := impl.Commit(s, l)
	sameStore(t, what+": goes on", out, plainCommit(s, l))
	if out.Code == impl.OK {
		found(t, what+": goes on", out.Store)
	}
	again := impl.Checkpoint(s)
	sameStore(t, what+": again", again, plainCheckpoint(s))
	if again.Code == impl.OK {
		found(t, what+": again", again.Store)
	}
}

// wiping lets the power go while bytes 0 are written over the log, as many at once as a cache has room for, ahead of which the area was flushed.
func wiping(t *testing.T, r *rand.Rand, what string, d impl.Disk, done impl.Store) {
	t.Helper()
	for _, span := range [][2]int64{{200, 500}, {400, 700}, {500, 700}} {
		way := impl.DiskWrite(d, span[0], strings.Repeat("\x00", int(span[1]-span[0])*impl.Sector)).Disk
		for range 12 {
			keep := make([]bool, len(way.Cache))
			for i := range keep {
				keep[i] = r.Intn(3) == 0
			}
			for i := range 5 {
				keep[i] = r.Intn(2) == 0
			}
			crashed := impl.DiskCrash(way, keep)
			sameStore(t, what+": while wiping", impl.Recover(crashed), stored(done))
		}
		sameStore(t, what+": while wiping, nothing done", impl.Recover(impl.DiskCrash(way, nil)), stored(done))
	}
}

func TestTornCheckpoint(t *testing.T) {
	r := rand.New(rand.NewSource(94))
	many := 0
	for what, s := range byName(toldStores()) {
		if s.Seq > 1 {
			tornCheckpoint(t, r, what, s)
			tornCheckpoint(t, r, what+", again", impl.Checkpoint(s).Store)
			many++
		}
	}
	if many < 7 {
		t.Errorf("only %d stores: the test looks at too little", many)
	}
	// Both areas have been used, and the log goes on behind the second.
	s := committed(freshStore(), shopOps()...)
	for i := range 5 {
		s = impl.Checkpoint(s).Store
		tornCheckpoint(t, r, "just behind one", s)
		s = committed(s, opsOf(createOp(named(pets(), "n"+strconv.Itoa(i)))), opsOf(insertOp("pets", petNamed(int64(i+10))...)))
		tornCheckpoint(t, r, "commits behind one", s)
	}
}

// Promise 16.

// history is a store that goes on by commits, checkpoints and crashes, and the database of the transactions that were taken, kept plainly beside it.
type history struct {
	s     impl.Store
	db    impl.Db
	taken int64
	codes map[string]int
}

func (h *history) commit(t *testing.T, r *rand.Rand) {
	l := drawOps(r, h.db, 1+r.Intn(6))
	done := plainTx(h.db, l)
	out := impl.Commit(h.s, l)
	h.codes["commit "+strconv.FormatInt(out.Code, 10)]++
	sameStore(t, "commit", out, plainCommit(h.s, l))
	if out.Code != impl.OK {
		return
	}
	if r.Intn(3) > 0 {
		h.s, h.db, h.taken = out.Store, done.Db, h.taken+1
		return
	}
	way := impl.LogAppend(h.s.Disk, h.s.Next, opsRecord(h.s.Seq, l...)).Disk
	all := losses(r, len(way.Cache))
	after := impl.Recover(impl.DiskCrash(way, all[r.Intn(len(all))])).Store
	if after.Seq != h.s.Seq {
		h.codes["crashed, taken"]++
		h.db, h.taken = done.Db, h.taken+1
	} else {
		h.codes["crashed, lost"]++
	}
	h.s = after
}

func (h *history) checkpoint(t *testing.T, r *rand.Rand) {
	out := impl.Checkpoint(h.s)
	h.codes["checkpoint "+strconv.FormatInt(out.Code, 10)]++
	sameStore(t, "checkpoint", out, plainCheckpoint(h.s))
	if out.Code != impl.OK {
		return
	}
	if r.Intn(3) > 0 {
		h.s = out.Store
		return
	}
	_, _, other := plainKept(plainDone(h.s.Disk, nil))
	way := impl.DiskWrite(h.s.Disk, other, areaText(h.s.Seq-1, h.s.Db)).Disk
	all := losses(r, len(way.Cache))
	h.s = impl.Recover(impl.DiskCrash(way, all[r.Intn(len(all))])).Store
	h.codes["crashed checkpoint"]++
}

func TestHistories(t *testing.T) {
	r := rand.New(rand.NewSource(95))
	codes := map[string]int{}
	for range 25 {
		h := history{s: impl.StoreNew(), codes: codes}
		for range 80 {
			if r.Intn(6) == 0 {
				h.checkpoint(t, r)
			} else {
				h.commit(t, r)
			}
			same(t, "the database of all that was taken", tellDb(h.s.Db), tellDb(h.db))
			same(t, "one more for each", h.s.Seq, h.taken+1)
			same(t, "right", impl.StoreRight(h.s), true)
			found(t, "history", h.s)
		}
	}
	for _, what := range []string{"commit 0", "commit 8", "commit 11", "checkpoint 0", "checkpoint 12", "crashed, taken", "crashed, lost", "crashed checkpoint"} {
		if codes[what] < 3 {
			t.Errorf("%s came %d times alone: the test looks at too little: %v", what, codes[what], codes)
		}
	}
}

// Memory.

func TestStoresAreNotChanged(t *testing.T) {
	r := rand.New(rand.NewSource(96))
	good, bad := opsOf(createOp(named(least(), "again"))), opsOf(createOp(named(least(), "again")), insertOp("no"))
	for what, s := range byName(rightStores()) {
		// Room behind a list lets what is put there be seen.
		s.Disk.Sectors = slices.Grow(slices.Clone(s.Disk.Sectors), 8)
		s.Db.Tables = slices.Grow(slices.Clone(s.Db.Tables), 4)
		was, l := cloneStore(s), drawOps(r, s.Db, 3)
		wasOps, wasGood := tellOps(l), tellOps(good)
		kept := impl.Commit(s, good).Store
		lists := [][]span{
			spansOfStore(s, "handed in"), spansOfOps(l, "ops"), spansOfOps(good, "ops"), spansOfStore(kept, "committed"), spansOfStore(impl.Commit(s, good).Store, "again"),
			spansOfStore(impl.Checkpoint(s).Store, "checkpoint"), spansOfStore(impl.Recover(s.Disk).Store, "found"), spansOfStore(impl.Recover(s.Disk).Store, "found again"),
		}
		impl.Commit(s, l)
		impl.Commit(s, bad)
		impl.StoreRight(s)
		sameStore(t, what, stored(s), stored(was))
		same(t, what+": the ops", tellOps(l)+tellOps(good), wasOps+wasGood)
		same(t, what+": the room behind the sectors", strings.Join(s.Disk.Sectors[len(s.Disk.Sectors):cap(s.Disk.Sectors)], ""), "")
		same(t, what+": the room behind the tables", tellDb(dbOf(s.Db.Tables[:len(s.Db.Tables)+1]...)), tellDb(dbOf(append(slices.Clone(was.Db.Tables), impl.Table{})...)))
		spansApart(t, what, slices.Concat(lists...))
	}
	d := busy(700, 300)
	was := cloneDisk(d)
	spansApart(t, "a cache", append(spansOfDisk(d, "handed in"), spansOfStore(impl.Recover(d).Store, "found")...))
	sameDisk(t, "a cache", d, was)
}

// What is done with an answer later leaves the store that it came of as it was.
func TestStoreAnswersStay(t *testing.T) {
	s := impl.Commit(impl.StoreNew(), opsOf(createOp(pets()))).Store
	stores, first := []impl.Store{s}, []impl.Store{cloneStore(s)}
	ops := opsOf(insertOp("pets", pet(1, "a")...), updateOp("pets", pet(1, "b")...), deleteOp("pets", intOf(1)), insertOp("pets", pet(2, "c")...), deleteOp("pets", intOf(2)))
	for i := range 40 {
		out := impl.Commit(s, ops[i%5:][:1])
		switch i % 10 {
		case 4:
			out = impl.Checkpoint(out.Store)
		case 9:
			out = impl.Recover(out.Store.Disk)
		}
		same(t, "code", out.Code, impl.OK)
		s = out.Store
		stores, first = append(stores, s), append(first, cloneStore(s))
	}
	for i := range stores {
		sameStore(t, "store "+strconv.Itoa(i), stored(stores[i]), stored(first[i]))
	}
}
