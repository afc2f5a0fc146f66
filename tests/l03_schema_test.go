package tests

import (
	"encoding/binary"
	"math"
	"math/rand"
	"reflect"
	"slices"
	"strconv"
	"strings"
	"testing"

	"loop.example/g00271/impl"
)

// longName is a name of as many bytes as a name may have; each number has another one.
func longName(n int) string {
	return "z_9" + strings.Repeat("a", 16) + strconv.Itoa(n)
}

// pets is an ordinary schema.
func pets() impl.Schema {
	return impl.Schema{
		Name:    "pets",
		Columns: []impl.Column{{Name: "id", Kind: impl.KindInt}, {Name: "name", Kind: impl.KindText}, {Name: "age", Kind: impl.KindInt, Nullable: true}},
		Key:     []int64{0},
		Indexes: []impl.Index{{Columns: []int64{1}, Unique: true}, {Columns: []int64{2, 0}}},
	}
}

// least is a schema of as little as may be.
func least() impl.Schema {
	return impl.Schema{Name: "a", Columns: []impl.Column{{Name: "a", Kind: impl.KindBool}}, Key: []int64{0}}
}

// greatest is a schema of as much as may be.
func greatest() impl.Schema {
	s := impl.Schema{Name: longName(0)}
	for i := range impl.MaxColumns {
		s.Columns = append(s.Columns, impl.Column{Name: longName(i), Kind: int64(1 + i%3)})
		s.Key = append(s.Key, int64(impl.MaxColumns-1-i))
	}
	for i := range impl.MaxIndexes {
		s.Indexes = append(s.Indexes, impl.Index{Columns: slices.Clone(s.Key), Unique: i%2 == 0})
	}
	return s
}

// nullable is a schema with nothing but its key's column sure to have a value.
func nullable() impl.Schema {
	return impl.Schema{
		Name:    "t1",
		Columns: []impl.Column{{Name: "b", Kind: impl.KindBool, Nullable: true}, {Name: "n", Kind: impl.KindInt, Nullable: true}, {Name: "t", Kind: impl.KindText, Nullable: true}, {Name: "k", Kind: impl.KindText}},
		Key:     []int64{3},
		Indexes: []impl.Index{{Columns: []int64{0, 1, 2}, Unique: true}},
	}
}

// someSchemas draws right schemas.
func someSchemas(count int) []impl.Schema {
	r := rand.New(rand.NewSource(5))
	draw := func(from []int) []int64 {
		var l []int64
		for _, i := range r.Perm(len(from))[:1+r.Intn(len(from))] {
			l = append(l, int64(from[i]))
		}
		return l
	}
	var schemas []impl.Schema
	for range count {
		s := impl.Schema{Name: "s" + strconv.Itoa(r.Intn(1000))}
		sure, all := []int{}, []int{}
		for i := range 1 + r.Intn(impl.MaxColumns) {
			c := impl.Column{Name: "c_" + strconv.Itoa(i), Kind: int64(1 + r.Intn(3)), Nullable: i > 0 && r.Intn(3) == 0}
			s.Columns = append(s.Columns, c)
			all = append(all, i)
			if !c.Nullable {
				sure = append(sure, i)
			}
		}
		s.Key = draw(sure)
		for range r.Intn(impl.MaxIndexes + 1) {
			s.Indexes = append(s.Indexes, impl.Index{Columns: draw(all), Unique: r.Intn(2) == 0})
		}
		schemas = append(schemas, s)
	}
	return schemas
}

func rightSchemas() []impl.Schema {
	alike := pets()
	alike.Indexes = []impl.Index{{Columns: []int64{1}}, {Columns: []int64{1}}, {Columns: []int64{0}, Unique: true}, {Columns: []int64{2}, Unique: true}}
	named := pets()
	named.Name, named.Columns[0].Name = "id", "pets"
	return append(someSchemas(500), pets(), least(), greatest(), nullable(), alike, named)
}

// wrongSchemas are not right, each for one reason, which its name tells.
func wrongSchemas() map[string]impl.Schema {
	wrong := map[string]impl.Schema{"zero": {}}
	change := func(why string, from impl.Schema, how func(s *impl.Schema)) {
		how(&from)
		wrong[why] = from
	}
	for _, name := range []string{"", "Pets", "9a", "_a", "a-b", "a b", "a\x00", "é", strings.Repeat("a", 21), strings.Repeat("a", 300)} {
		change("named "+name, pets(), func(s *impl.Schema) { s.Name = name })
		change("a column named "+name, pets(), func(s *impl.Schema) { s.Columns[2].Name = name })
	}
	for _, kind := range []int64{impl.KindNull, -1, 4, 256 + impl.KindInt, math.MaxInt64, math.MinInt64} {
		change("a column of Kind "+strconv.FormatInt(kind, 10), pets(), func(s *impl.Schema) { s.Columns[1].Kind = kind })
	}
	change("two columns alike", pets(), func(s *impl.Schema) { s.Columns[2].Name = "id" })
	change("two columns alike but in Kind", pets(), func(s *impl.Schema) { s.Columns[1].Name = "id" })
	change("no columns", pets(), func(s *impl.Schema) { s.Columns = nil })
	change("no columns, key or indexes", pets(), func(s *impl.Schema) { s.Columns, s.Key, s.Indexes = nil, nil, nil })
	change("a column too many", greatest(), func(s *impl.Schema) {
		s.Columns = append(s.Columns, impl.Column{Name: "more", Kind: impl.KindInt})
	})
	change("far too many columns", least(), func(s *impl.Schema) {
		for i := range impl.MaxList + 1 {
			s.Columns = append(s.Columns, impl.Column{Name: "c" + strconv.Itoa(i), Kind: impl.KindInt})
		}
	})
	change("a Nullable key", pets(), func(s *impl.Schema) { s.Key = []int64{2} })
	change("a Nullable column behind another one in the key", pets(), func(s *impl.Schema) { s.Key = []int64{0, 1, 2} })
	change("an index too many", greatest(), func(s *impl.Schema) { s.Indexes = append(s.Indexes, impl.Index{Columns: []int64{0}}) })
	lists := map[string][]int64{
		"none": nil, "below": {-1}, "beyond": {3}, "far beyond": {math.MaxInt64}, "far below": {math.MinInt64}, "beyond 32 bits": {1 << 32},
		"twice": {1, 1}, "twice apart": {1, 0, 1}, "a wrong one behind": {0, 1, 3}, "too many": {0, 1, 0, 1}, "far too many": slices.Repeat([]int64{0}, impl.MaxList+1),
	}
	for why, l := range lists {
		change("key: "+why, pets(), func(s *impl.Schema) { s.Key = l })
		change("first index: "+why, pets(), func(s *impl.Schema) { s.Indexes[0].Columns = l })
		change("last index: "+why, pets(), func(s *impl.Schema) { s.Indexes[1].Columns = l })
	}
	return wrong
}

// shapeOf writes the bytes of any schema as the document says, in another way than the program.
func shapeOf(s impl.Schema) string {
	var b []byte
	num := func(n int64) { b = binary.AppendVarint(b, n) }
	text := func(t string) {
		num(int64(len(t)))
		b = append(b, t...)
	}
	flag := func(is bool) { num(map[bool]int64{true: 1}[is]) }
	list := func(l []int64) {
		num(int64(len(l)))
		for _, n := range l {
			num(n)
		}
	}
	text(s.Name)
	num(int64(len(s.Columns)))
	for _, c := range s.Columns {
		text(c.Name)
		num(c.Kind)
		flag(c.Nullable)
	}
	list(s.Key)
	num(int64(len(s.Indexes)))
	for _, x := range s.Indexes {
		list(x.Columns)
		flag(x.Unique)
	}
	return string(b)
}

func sameSchema(t *testing.T, what string, got impl.SchemaOut, want impl.Schema, code int64) {
	t.Helper()
	if got.Code != code || !alikeSchemas(got.Schema, want) {
		t.Errorf("%s: got %s, want %s with code %d", what, brief(got), brief(want), code)
	}
}

// alikeSchemas takes an empty list and none as the same.
func alikeSchemas(a impl.Schema, b impl.Schema) bool {
	alike := func(x impl.Index, y impl.Index) bool {
		return x.Unique == y.Unique && slices.Equal(x.Columns, y.Columns)
	}
	return a.Name == b.Name && slices.Equal(a.Columns, b.Columns) && slices.Equal(a.Key, b.Key) && slices.EqualFunc(a.Indexes, b.Indexes, alike)
}

// What is right.

func TestSchemaRight(t *testing.T) {
	for _, s := range rightSchemas() {
		same(t, brief(s), impl.SchemaRight(s), true)
	}
	for why, s := range wrongSchemas() {
		same(t, why, impl.SchemaRight(s), false)
	}
}

// Promise 4.

func TestSchemaBytes(t *testing.T) {
	same(t, "least", impl.SchemaBytes(least()), "\x02a\x02\x02a\x02\x00\x02\x00\x00")
	same(t, "pets", impl.SchemaBytes(pets()), "\x08pets\x06\x04id\x04\x00\x08name\x06\x00\x06age\x04\x02\x02\x00\x04\x02\x02\x02\x04\x04\x00\x00")
	for _, s := range rightSchemas() {
		same(t, brief(s), impl.SchemaBytes(s), shapeOf(s))
	}
	for why, s := range wrongSchemas() {
		same(t, why, impl.SchemaBytes(s), "")
	}
}

func TestSchemasComeBack(t *testing.T) {
	for _, s := range rightSchemas() {
		sameSchema(t, brief(s), impl.SchemaRead(impl.SchemaBytes(s)), s, impl.OK)
		sameSchema(t, "written another way: "+brief(s), impl.SchemaRead(shapeOf(s)), s, impl.OK)
	}
}

func TestSchemaReadWrongSchemas(t *testing.T) {
	for why, s := range wrongSchemas() {
		sameSchema(t, why, impl.SchemaRead(shapeOf(s)), impl.Schema{}, impl.ErrSyntax)
	}
}

func TestSchemaReadWrongBytes(t *testing.T) {
	for _, s := range []impl.Schema{pets(), least(), greatest(), nullable()} {
		b := shapeOf(s)
		for end := range len(b) {
			sameSchema(t, "cut short: "+brief(b[:end]), impl.SchemaRead(b[:end]), impl.Schema{}, impl.ErrSyntax)
		}
		for _, more := range []string{"\x00", "\x02", "\x80", "\xff", b} {
			sameSchema(t, "more behind: "+brief(b+more), impl.SchemaRead(b+more), impl.Schema{}, impl.ErrSyntax)
		}
	}
	wrong := []string{
		"", "\x00", "\xff", "a",
		"\x82\x00a\x02\x02a\x02\x00\x02\x00\x00", "\x02a\x82\x00\x02a\x02\x00\x02\x00\x00", "\x02a\x02\x02a\x82\x00\x00\x02\x00\x00",
		"\x02a\x02\x02a\x02\x80\x00\x02\x00\x00", "\x02a\x02\x02a\x02\x00\x02\x80\x00\x00", "\x02a\x02\x02a\x02\x00\x02\x00\x80\x00",
		"\x02a\x02\x02a\x02\x04\x02\x00\x00", "\x02a\x02\x02a\x02\x01\x02\x00\x00", "\x02a\x02\x02a\x02\x00\x02\x00\x02\x02\x00\x04", "\x02a\x02\x02a\x02\x00\x02\x00\x02\x02\x00\x01",
		"\x01a\x02\x02a\x02\x00\x02\x00\x00", "\x02a\x01\x02a\x02\x00\x02\x00\x00", "\x02a\x02\x02a\x02\x00\x01\x00\x00", "\x02a\x02\x02a\x02\x00\x02\x00\x01",
		"\x02a" + impl.PutNum(math.MaxInt64), "\x02a" + impl.PutNum(math.MinInt64), "\x02a\x02\x02a\x02\x00" + impl.PutNum(math.MaxInt64),
		"\x02a\x02\x02a\x02\x00\x02\x00" + impl.PutNum(math.MaxInt64), "\x02a\x02\x02a\x02\x00\x02\x00\x02" + impl.PutNum(math.MaxInt64),
		impl.PutNum(math.MaxInt64) + "a", impl.PutNum(-1), strings.Repeat("\xff", 11),
		strings.Repeat("\x02", impl.MaxBytes), strings.Repeat("\x00", impl.MaxBytes), strings.Repeat("\xff", impl.MaxBytes),
		shapeOf(pets()) + strings.Repeat("\x00", impl.MaxBytes-len(shapeOf(pets()))),
	}
	for _, b := range wrong {
		sameSchema(t, brief(b), impl.SchemaRead(b), impl.Schema{}, impl.ErrSyntax)
	}
	for _, b := range []string{"\x00", "\x02", "\xff", shapeOf(pets())} {
		sameSchema(t, "too long", impl.SchemaRead(strings.Repeat(b, tooLong)), impl.Schema{}, impl.ErrSize)
	}
	sameSchema(t, "too long by a byte", impl.SchemaRead(shapeOf(pets())+strings.Repeat("\x00", tooLong-len(shapeOf(pets())))), impl.Schema{}, impl.ErrSize)
}

// With bytes turned, what is read is right, and has just these bytes.
func TestSchemaReadAnyBytes(t *testing.T) {
	r := rand.New(rand.NewSource(6))
	few := []byte{0, 1, 2, 3, 4, 6, 8, 20, 22, 128, 255, 'a', 'b'}
	schemas := rightSchemas()
	read := 0
	for range 100000 {
		b := []byte(shapeOf(schemas[r.Intn(len(schemas))]))
		for range 1 + r.Intn(2) {
			b[r.Intn(len(b))] = few[r.Intn(len(few))]
		}
		out := impl.SchemaRead(string(b))
		if out.Code != impl.OK {
			sameSchema(t, brief(b), out, impl.Schema{}, impl.ErrSyntax)
			continue
		}
		read++
		same(t, "right", impl.SchemaRight(out.Schema), true)
		same(t, "its bytes", impl.SchemaBytes(out.Schema), string(b))
	}
	if read < 1000 {
		t.Errorf("only %d texts were read: the test looks at too little", read)
	}
}

// Columns and rows.

func TestColumnOf(t *testing.T) {
	for _, s := range rightSchemas() {
		for i, c := range s.Columns {
			same(t, c.Name, impl.ColumnOf(s, c.Name), int64(i))
			same(t, "more than "+c.Name, impl.ColumnOf(s, c.Name+"_"), -1)
		}
		for _, no := range []string{"", "no", "ID", "id ", "\x00", s.Name + "s", strings.Repeat("a", impl.MaxBytes)} {
			same(t, "no "+brief(no), impl.ColumnOf(s, no), -1)
		}
	}
	for why, s := range wrongSchemas() {
		for _, name := range []string{"id", "name", "a", ""} {
			same(t, why, impl.ColumnOf(s, name), -1)
		}
	}
	same(t, "too long", impl.ColumnOf(pets(), strings.Repeat("a", tooLong)), 0)
	same(t, "too long, of no right schema", impl.ColumnOf(impl.Schema{}, strings.Repeat("a", tooLong)), 0)
}

func TestRowRight(t *testing.T) {
	full := textOf(strings.Repeat("\x00", impl.MaxText))
	right := func(s impl.Schema, row ...impl.Value) { same(t, "right: "+brief(row), impl.RowRight(s, row), true) }
	wrong := func(s impl.Schema, row ...impl.Value) { same(t, "wrong: "+brief(row), impl.RowRight(s, row), false) }
	right(pets(), intOf(1), textOf("rex"), null())
	right(pets(), intOf(math.MinInt64), full, intOf(math.MaxInt64))
	right(nullable(), null(), null(), null(), textOf(""))
	right(nullable(), boolOf(0), intOf(0), textOf(""), full)
	wrong(pets())
	wrong(pets(), intOf(1), textOf("rex"))
	wrong(pets(), intOf(1), textOf("rex"), null(), null())
	wrong(pets(), null(), textOf("rex"), null())
	wrong(pets(), intOf(1), null(), null())
	wrong(nullable(), null(), null(), null(), null())
	wrong(pets(), repeated(null(), impl.MaxList+1)...)
	for at, c := range pets().Columns {
		for _, v := range append(edgeValues(), wrongValues()...) {
			row := []impl.Value{intOf(1), textOf("rex"), intOf(3)}
			row[at] = v
			want := impl.ValueRight(v) && (v.Kind == c.Kind || c.Nullable && v == null())
			same(t, brief(row), impl.RowRight(pets(), row), want)
		}
	}
}

func TestRowRightOfOthers(t *testing.T) {
	for _, s := range rightSchemas() {
		var row, nulls []impl.Value
		for _, c := range s.Columns {
			row = append(row, impl.Value{Kind: c.Kind})
			nulls = append(nulls, impl.Value{})
		}
		same(t, brief(s), impl.RowRight(s, row), true)
		same(t, "nulls alone", impl.RowRight(s, nulls), false)
		for at, c := range s.Columns {
			holed := slices.Clone(row)
			holed[at] = null()
			same(t, "a null in "+c.Name, impl.RowRight(s, holed), c.Nullable)
			holed[at] = impl.Value{Kind: c.Kind%3 + 1}
			same(t, "another Kind in "+c.Name, impl.RowRight(s, holed), false)
		}
	}
	for why, s := range wrongSchemas() {
		same(t, why, impl.RowRight(s, []impl.Value{intOf(1), textOf("rex"), intOf(3)}), false)
		same(t, why+", no row", impl.RowRight(s, nil), false)
		var row []impl.Value
		for _, c := range s.Columns {
			row = append(row, impl.Value{Kind: c.Kind})
		}
		same(t, why+", a row of its own", impl.RowRight(s, row), false)
	}
}

func TestPick(t *testing.T) {
	row := []impl.Value{intOf(1), textOf("rex"), null(), boolOf(1)}
	picked := func(what string, got []impl.Value, want ...impl.Value) {
		t.Helper()
		if !slices.Equal(got, want) {
			t.Errorf("%s: got %s, want %s", what, brief(got), brief(want))
		}
	}
	picked("one", impl.Pick(row, []int64{1}), textOf("rex"))
	picked("in their order", impl.Pick(row, []int64{3, 0, 2}), boolOf(1), intOf(1), null())
	picked("one twice", impl.Pick(row, []int64{0, 0}), intOf(1), intOf(1))
	picked("no places", impl.Pick(row, nil))
	picked("no values", impl.Pick(nil, nil))
	picked("a place of no values", impl.Pick(nil, []int64{0}))
	for _, n := range []int64{-1, 4, 1 << 32, math.MaxInt64, math.MinInt64} {
		picked("no place", impl.Pick(row, []int64{n}))
		picked("no place behind others", impl.Pick(row, []int64{0, 1, n}))
	}
	twelve := repeated(intOf(7), impl.MaxValues)
	twelve[impl.MaxValues-1] = intOf(8)
	picked("the last of as many as may be", impl.Pick(twelve, []int64{impl.MaxValues - 1}), intOf(8))
	picked("a value too many", impl.Pick(append(twelve, intOf(9)), []int64{0}))
	picked("too long a row", impl.Pick(repeated(intOf(1), impl.MaxList+1), []int64{0}))
	places := slices.Repeat([]int64{1}, impl.MaxColumns)
	picked("as many places as may be", impl.Pick(row, places), repeated(textOf("rex"), impl.MaxColumns)...)
	picked("a place too many", impl.Pick(row, append(places, 1)))
	picked("too many places", impl.Pick(row, make([]int64, impl.MaxList+1)))
	for _, v := range wrongValues() {
		picked("a wrong value: "+brief(v), impl.Pick([]impl.Value{intOf(1), v}, []int64{0}))
	}
}

// What is handed in stays as it is, and an answer has memory of its own.
func TestSchemasAreNotChanged(t *testing.T) {
	s, kept := greatest(), greatest()
	row := []impl.Value{intOf(1), textOf("rex"), null()}
	impl.SchemaRight(s)
	b := impl.SchemaBytes(s)
	impl.ColumnOf(s, longName(1))
	impl.RowRight(s, row)
	if !reflect.DeepEqual(s, kept) {
		t.Errorf("changed to %s", brief(s))
	}
	places := []int64{0, 1}
	picked := impl.Pick(row, places)
	picked[0] = null()
	_ = append(picked, null())
	if !slices.Equal(row, []impl.Value{intOf(1), textOf("rex"), null()}) || !slices.Equal(places, []int64{0, 1}) {
		t.Errorf("changed to %s by %s", brief(row), brief(places))
	}
	read := impl.SchemaRead(b).Schema
	_ = append(read.Key, 77)
	for i := range read.Key {
		read.Key[i] = 77
	}
	for i := range read.Indexes[0].Columns {
		read.Indexes[0].Columns[i] = 78
	}
	for i := 1; i < impl.MaxIndexes; i++ {
		if !slices.Equal(read.Indexes[i].Columns, kept.Indexes[i].Columns) {
			t.Errorf("two lists of an answer share memory: %s", brief(read))
		}
	}
	sameSchema(t, "read again", impl.SchemaRead(b), kept, impl.OK)
}
