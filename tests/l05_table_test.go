package tests

import (
	"fmt"
	"math"
	"math/rand"
	"slices"
	"strconv"
	"strings"
	"testing"

	"loop.example/g00271/impl"
)

// valuesOf is a list of values.
func valuesOf(values ...impl.Value) []impl.Value { return values }

// tableOf is a table of these rows, right or not.
func tableOf(s impl.Schema, rows ...[]impl.Value) impl.Table {
	return impl.Table{Schema: s, Rows: rows}
}

// pet is a row of pets without an age.
func pet(id int64, name string) []impl.Value { return valuesOf(intOf(id), textOf(name), null()) }

// petNamed has a name of its own for each id.
func petNamed(id int64) []impl.Value { return pet(id, "pet"+strconv.FormatInt(id, 10)) }

// manyPets is a table of pets with the ids 10, 20, 30 ..
func manyPets(many int) impl.Table {
	t := tableOf(pets())
	for i := range many {
		t.Rows = append(t.Rows, petNamed(int64(10*i+10)))
	}
	return t
}

// turned is a schema whose key has its columns in another order than the row, with unique indexes of several columns.
func turned() impl.Schema {
	return impl.Schema{
		Name:    "turned",
		Columns: []impl.Column{{Name: "a", Kind: impl.KindInt}, {Name: "b", Kind: impl.KindText}, {Name: "c", Kind: impl.KindBool, Nullable: true}, {Name: "d", Kind: impl.KindInt, Nullable: true}},
		Key:     []int64{1, 0},
		Indexes: []impl.Index{{Columns: []int64{2, 3}, Unique: true}, {Columns: []int64{3}}, {Columns: []int64{3, 1}, Unique: true}, {Columns: []int64{2}}},
	}
}

// tellTable tells a table in all its parts; an empty list and none are told alike.
func tellTable(t impl.Table) string { return fmt.Sprintf("%+v", t) }

func tellRows(rows [][]impl.Value) string { return fmt.Sprintf("%+v", rows) }

func cloneSchema(s impl.Schema) impl.Schema {
	s.Columns, s.Key, s.Indexes = slices.Clone(s.Columns), slices.Clone(s.Key), slices.Clone(s.Indexes)
	for i := range s.Indexes {
		s.Indexes[i].Columns = slices.Clone(s.Indexes[i].Columns)
	}
	return s
}

func sameTable(t *testing.T, what string, got impl.TableOut, want impl.Table, code int64) {
	t.Helper()
	if got.Code != code || tellTable(got.Table) != tellTable(want) {
		t.Errorf("%s: got %s, want %s with code %d", what, brief(got), brief(want), code)
	}
}

func sameRows(t *testing.T, what string, got impl.RowsOut, want [][]impl.Value, code int64) {
	t.Helper()
	if got.Code != code || tellRows(got.Rows) != tellRows(want) {
		t.Errorf("%s: got %s, want %s with code %d", what, brief(got), brief(want), code)
	}
}

// The plain functions do what the document says on lists alone, row by row, in another way than the program.

func plainKey(s impl.Schema, row []impl.Value) []impl.Value {
	var key []impl.Value
	for _, n := range s.Key {
		key = append(key, row[n])
	}
	return key
}

func plainClash(s impl.Schema, a []impl.Value, b []impl.Value) bool {
	for _, x := range s.Indexes {
		alike := 0
		for _, n := range x.Columns {
			if a[n] == b[n] && a[n] != null() {
				alike++
			}
		}
		if x.Unique && alike == len(x.Columns) {
			return true
		}
	}
	return false
}

func plainRight(t impl.Table) bool {
	if !impl.SchemaRight(t.Schema) || len(t.Rows) > impl.MaxRows {
		return false
	}
	for i, row := range t.Rows {
		if !impl.RowRight(t.Schema, row) {
			return false
		}
		if i > 0 && impl.Compare(plainKey(t.Schema, t.Rows[i-1]), plainKey(t.Schema, row)) != -1 {
			return false
		}
		if slices.ContainsFunc(t.Rows[:i], func(ahead []impl.Value) bool { return plainClash(t.Schema, ahead, row) }) {
			return false
		}
	}
	return true
}

// plainPlace tells the place of the row that has the key (-1, if there is none).
func plainPlace(t impl.Table, key []impl.Value) int {
	return slices.IndexFunc(t.Rows, func(row []impl.Value) bool { return slices.Equal(plainKey(t.Schema, row), key) })
}

// plainFault tells the faults that a table and a list have whatever is done with them.
func plainFault(t impl.Table, l []impl.Value) int64 {
	switch {
	case len(l) > impl.MaxList:
		return impl.ErrSize
	case !plainRight(t):
		return impl.ErrForm
	}
	return impl.OK
}

// plainStored is the table with a row in the place of another one, or of none, behind all that have lesser keys.
func plainStored(t impl.Table, row []impl.Value) impl.Table {
	stored := impl.Table{Schema: t.Schema}
	for _, other := range t.Rows {
		if !slices.Equal(plainKey(t.Schema, other), plainKey(t.Schema, row)) {
			stored.Rows = append(stored.Rows, other)
		}
	}
	stored.Rows = append(stored.Rows, row)
	slices.SortFunc(stored.Rows, func(a, b []impl.Value) int {
		return int(impl.Compare(plainKey(t.Schema, a), plainKey(t.Schema, b)))
	})
	return stored
}

func plainInsert(t impl.Table, row []impl.Value) impl.TableOut {
	if code := plainFault(t, row); code != impl.OK {
		return impl.TableOut{Code: code}
	}
	if !impl.RowRight(t.Schema, row) {
		return impl.TableOut{Code: impl.ErrType}
	}
	if plainPlace(t, plainKey(t.Schema, row)) >= 0 {
		return impl.TableOut{Code: impl.ErrThere}
	}
	if len(t.Rows) >= impl.MaxRows {
		return impl.TableOut{Code: impl.ErrFull}
	}
	for _, other := range t.Rows {
		if plainClash(t.Schema, other, row) {
			return impl.TableOut{Code: impl.ErrUnique}
		}
	}
	return impl.TableOut{Table: plainStored(t, row)}
}

func plainUpdate(t impl.Table, row []impl.Value) impl.TableOut {
	if code := plainFault(t, row); code != impl.OK {
		return impl.TableOut{Code: code}
	}
	if !impl.RowRight(t.Schema, row) {
		return impl.TableOut{Code: impl.ErrType}
	}
	at := plainPlace(t, plainKey(t.Schema, row))
	if at < 0 {
		return impl.TableOut{Code: impl.ErrNone}
	}
	for i, other := range t.Rows {
		if i != at && plainClash(t.Schema, other, row) {
			return impl.TableOut{Code: impl.ErrUnique}
		}
	}
	return impl.TableOut{Table: plainStored(t, row)}
}

func plainDelete(t impl.Table, key []impl.Value) impl.TableOut {
	if code := plainFault(t, key); code != impl.OK {
		return impl.TableOut{Code: code}
	}
	at := plainPlace(t, key)
	if at < 0 {
		return impl.TableOut{Code: impl.ErrNone}
	}
	return impl.TableOut{Table: tableOf(t.Schema, slices.Concat(t.Rows[:at], t.Rows[at+1:])...)}
}

func plainGet(t impl.Table, key []impl.Value) impl.RowsOut {
	if code := plainFault(t, key); code != impl.OK {
		return impl.RowsOut{Code: code}
	}
	at := plainPlace(t, key)
	if at < 0 {
		return impl.RowsOut{Code: impl.ErrNone}
	}
	return impl.RowsOut{Rows: t.Rows[at : at+1]}
}

func plainFind(t impl.Table, index int64, values []impl.Value) impl.RowsOut {
	if code := plainFault(t, values); code != impl.OK {
		return impl.RowsOut{Code: code}
	}
	if index < 0 || index > int64(len(t.Schema.Indexes))-1 {
		return impl.RowsOut{Code: impl.ErrRange}
	}
	if !impl.ValuesRight(values) {
		return impl.RowsOut{Code: impl.ErrType}
	}
	columns := t.Schema.Indexes[index].Columns
	var found [][]impl.Value
	for _, row := range t.Rows {
		alike := 0
		for alike < len(values) && alike < len(columns) && row[columns[alike]] == values[alike] {
			alike++
		}
		if alike == len(values) {
			found = append(found, row)
		}
	}
	return impl.RowsOut{Rows: found}
}

func plainIndex(t impl.Table, index int64) impl.Tree {
	if !plainRight(t) || index < 0 || index > int64(len(t.Schema.Indexes))-1 {
		return impl.Tree{}
	}
	tree := impl.Tree{}
	for _, row := range t.Rows {
		var columns []impl.Value
		for _, n := range t.Schema.Indexes[index].Columns {
			columns = append(columns, row[n])
		}
		key := bytesOf(plainKey(t.Schema, row))
		tree = plainPut(tree, bytesOf(columns)+key, key)
	}
	return tree
}

// fewOf are right values that a column may have, so few that rows come to have the same ones.
func fewOf(c impl.Column) []impl.Value {
	few := map[int64][]impl.Value{
		impl.KindBool: {boolOf(0), boolOf(1)},
		impl.KindInt:  {intOf(math.MinInt64), intOf(-256), intOf(-1), intOf(0), intOf(1), intOf(255), intOf(256), intOf(math.MaxInt64)},
		impl.KindText: {textOf(""), textOf("\x00"), textOf("\x00\xff"), textOf("a"), textOf("a\x00"), textOf("a\x00b"), textOf("ab"), textOf("b"), textOf(strings.Repeat("\x00", impl.MaxText))},
	}[c.Kind]
	if c.Nullable {
		few = append(few, null(), null())
	}
	return few
}

func drawRow(r *rand.Rand, s impl.Schema) []impl.Value {
	var row []impl.Value
	for _, c := range s.Columns {
		few := fewOf(c)
		row = append(row, few[r.Intn(len(few))])
	}
	return row
}

// drawList draws what may be asked of a table by key, or by index: a key, a part of a row, one too many, or any values.
func drawList(r *rand.Rand, t impl.Table, columns []int64) []impl.Value {
	row := drawRow(r, t.Schema)
	if len(t.Rows) > 0 && r.Intn(4) > 0 {
		row = t.Rows[r.Intn(len(t.Rows))]
	}
	var l []impl.Value
	for _, n := range columns {
		l = append(l, row[n])
	}
	edges, wrong := edgeValues(), wrongValues()
	switch r.Intn(12) {
	case 0:
		return l[:r.Intn(len(l)+1)]
	case 1:
		return append(l, edges[r.Intn(len(edges))])
	case 2:
		l[r.Intn(len(l))] = edges[r.Intn(len(edges))]
	case 3:
		l[r.Intn(len(l))] = wrong[r.Intn(len(wrong))]
	}
	return l
}

// someTables draws right tables by putting rows in, with some that came before.
func someTables(r *rand.Rand, s impl.Schema) []impl.Table {
	x := impl.Table{Schema: s}
	tables := []impl.Table{x}
	for i := range 90 {
		x = plainDrawn(r, x)
		if i%18 == 17 {
			tables = append(tables, x)
		}
	}
	return tables
}

func plainDrawn(r *rand.Rand, t impl.Table) impl.Table {
	if out := plainInsert(t, drawRow(r, t.Schema)); out.Code == impl.OK {
		return out.Table
	}
	return t
}

func tableSchemas() []impl.Schema {
	return append(someSchemas(40), pets(), least(), greatest(), nullable(), turned())
}

// spansOfSchema are the lists of a schema.
func spansOfSchema(s impl.Schema, what string) []span {
	l := []span{spanOf(s.Columns, what+" Columns"), spanOf(s.Key, what+" Key"), spanOf(s.Indexes, what+" Indexes")}
	for i, x := range s.Indexes {
		l = append(l, spanOf(x.Columns, what+" Index "+strconv.Itoa(i)))
	}
	return l
}

func spansOfRows(rows [][]impl.Value, what string) []span {
	l := []span{spanOf(rows, what+" Rows")}
	for i, row := range rows {
		l = append(l, spanOf(row, what+" row "+strconv.Itoa(i)))
	}
	return l
}

func spansOfTable(t impl.Table, what string) []span {
	return append(spansOfSchema(t.Schema, what), spansOfRows(t.Rows, what)...)
}

// cloneTable is a table in memory of its own.
func cloneTable(t impl.Table) impl.Table {
	c := impl.Table{Schema: cloneSchema(t.Schema)}
	for _, row := range t.Rows {
		c.Rows = append(c.Rows, slices.Clone(row))
	}
	return c
}

// What is right.

func rightTables() map[string]impl.Table {
	r := rand.New(rand.NewSource(11))
	right := map[string]impl.Table{
		"pets":                 tableOf(pets(), pet(-3, "ada"), pet(2, "rex"), valuesOf(intOf(7), textOf("max"), intOf(9))),
		"ages alike":           tableOf(pets(), valuesOf(intOf(1), textOf("a"), intOf(9)), valuesOf(intOf(2), textOf("b"), intOf(9))),
		"as many as may be":    manyPets(impl.MaxRows),
		"numbers' edges":       tableOf(pets(), pet(math.MinInt64, "a"), pet(-1, "b"), pet(0, "c"), pet(math.MaxInt64, "")),
		"the key's own order":  tableOf(turned(), valuesOf(intOf(9), textOf("a"), null(), null()), valuesOf(intOf(1), textOf("a\x00"), null(), null()), valuesOf(intOf(2), textOf("a\x00"), null(), null())),
		"unique but for nulls": tableOf(turned(), valuesOf(intOf(1), textOf("a"), null(), intOf(5)), valuesOf(intOf(2), textOf("a"), boolOf(1), null()), valuesOf(intOf(3), textOf("a"), boolOf(1), null()), valuesOf(intOf(1), textOf("b"), null(), intOf(5))),
		"both rows of bools":   tableOf(least(), valuesOf(boolOf(0)), valuesOf(boolOf(1))),
	}
	for i, s := range tableSchemas() {
		for j, x := range someTables(r, s) {
			right[fmt.Sprintf("drawn %d %d", i, j)] = x
		}
	}
	return right
}

// wrongTables are not right, each for one reason, which its name tells.
func wrongTables() map[string]impl.Table {
	wrong := map[string]impl.Table{
		"zero":                       {},
		"rows without a schema":      {Rows: [][]impl.Value{pet(1, "a")}},
		"a row without a schema":     {Rows: [][]impl.Value{nil}},
		"a row too many":             manyPets(impl.MaxRows + 1),
		"far too many rows":          manyPets(impl.MaxList + 1),
		"no row":                     tableOf(pets(), nil),
		"no row behind others":       tableOf(pets(), pet(1, "a"), pet(2, "b"), nil),
		"a row too short":            tableOf(pets(), pet(1, "a")[:2]),
		"a row too long":             tableOf(pets(), append(pet(1, "a"), null())),
		"a row far too long":         tableOf(pets(), repeated(intOf(1), impl.MaxList+1)),
		"a null key":                 tableOf(pets(), valuesOf(null(), textOf("a"), null())),
		"a null where none may be":   tableOf(pets(), valuesOf(intOf(1), null(), null())),
		"another kind":               tableOf(pets(), valuesOf(intOf(1), textOf("a"), boolOf(1))),
		"falling":                    tableOf(pets(), pet(2, "a"), pet(1, "b")),
		"falling below 0":            tableOf(pets(), pet(1, "a"), pet(-1, "b")),
		"falling at the end":         tableOf(pets(), pet(1, "a"), pet(3, "b"), pet(2, "c")),
		"falling at the front":       tableOf(pets(), pet(2, "a"), pet(1, "b"), pet(3, "c")),
		"falling as texts":           tableOf(nullable(), valuesOf(null(), null(), null(), textOf("a\x00")), valuesOf(null(), null(), null(), textOf("a"))),
		"a key twice":                tableOf(pets(), pet(1, "a"), pet(1, "b")),
		"a key twice at the end":     tableOf(pets(), pet(0, "a"), pet(1, "b"), pet(1, "c")),
		"a row twice":                tableOf(pets(), pet(1, "a"), pet(1, "a")),
		"by its columns, not by key": tableOf(turned(), valuesOf(intOf(1), textOf("b"), null(), null()), valuesOf(intOf(2), textOf("a"), null(), null())),
		"a clash":                    tableOf(pets(), pet(1, "a"), pet(2, "a")),
		"a clash of empty texts":     tableOf(pets(), pet(1, ""), pet(2, "")),
		"a clash of first and last":  tableOf(pets(), pet(1, "a"), pet(2, "b"), pet(3, "c"), pet(4, "a")),
		"a clash of the last two":    tableOf(pets(), pet(1, "a"), pet(2, "b"), pet(3, "c"), pet(4, "c")),
		"a clash in two columns":     tableOf(turned(), valuesOf(intOf(1), textOf("a"), boolOf(0), intOf(0)), valuesOf(intOf(1), textOf("b"), boolOf(0), intOf(0))),
		"a clash in a later index":   tableOf(turned(), valuesOf(intOf(1), textOf("a"), boolOf(0), intOf(0)), valuesOf(intOf(2), textOf("a"), boolOf(1), intOf(0))),
	}
	for why, s := range wrongSchemas() {
		wrong["of a wrong schema: "+why] = tableOf(s)
		wrong["a row of a wrong schema: "+why] = tableOf(s, petNamed(1))
	}
	for i, v := range wrongValues() {
		for at := range pets().Columns {
			row := valuesOf(intOf(1), textOf("a"), intOf(3))
			row[at] = v
			wrong[fmt.Sprintf("wrong value %d at %d", i, at)] = tableOf(pets(), pet(0, "z"), row)
		}
	}
	return wrong
}

func TestTableRight(t *testing.T) {
	for what, x := range byName(rightTables()) {
		same(t, what, impl.TableRight(x), true)
	}
	for why, x := range wrongTables() {
		same(t, why, impl.TableRight(x), false)
	}
}

func TestTableNew(t *testing.T) {
	for _, s := range rightSchemas() {
		x := impl.TableNew(s)
		same(t, brief(s), tellTable(x), tellTable(tableOf(s)))
		same(t, "right: "+brief(s), impl.TableRight(x), true)
		spansApart(t, "new", append(spansOfSchema(s, "handed in"), spansOfTable(x, "answer")...))
	}
	for why, s := range wrongSchemas() {
		same(t, why, tellTable(impl.TableNew(s)), tellTable(impl.Table{}))
	}
}

// Promise 7.

func TestTableInsert(t *testing.T) {
	x := impl.TableNew(pets())
	for _, id := range []int64{5, -7, 300, 0, math.MaxInt64, -300, math.MinInt64, 256} {
		x = impl.TableInsert(x, petNamed(id)).Table
	}
	want := tableOf(pets())
	for _, id := range []int64{math.MinInt64, -300, -7, 0, 5, 256, 300, math.MaxInt64} {
		want.Rows = append(want.Rows, petNamed(id))
	}
	same(t, "by their keys", tellTable(x), tellTable(want))
	a, b, c := valuesOf(intOf(9), textOf("a"), null(), null()), valuesOf(intOf(1), textOf("a\x00"), null(), null()), valuesOf(intOf(0), textOf("b"), null(), null())
	x = impl.TableInsert(impl.TableNew(turned()), c).Table
	x = impl.TableInsert(x, a).Table
	sameTable(t, "by a key in its own order", impl.TableInsert(x, b), tableOf(turned(), a, b, c), impl.OK)
	sameTable(t, "the last that may be", impl.TableInsert(manyPets(impl.MaxRows-1), pet(5, "new")), plainStored(manyPets(impl.MaxRows-1), pet(5, "new")), impl.OK)
}

// A row that comes is got by its key, all others stay as they were; gone again, the table is as it was.
func TestRowsComeAndGo(t *testing.T) {
	r := rand.New(rand.NewSource(12))
	taken := 0
	for what, x := range byName(rightTables()) {
		for range 3 {
			row := drawRow(r, x.Schema)
			out := impl.TableInsert(x, row)
			if out.Code != impl.OK {
				continue
			}
			taken++
			key := plainKey(x.Schema, row)
			same(t, what+": right", impl.TableRight(out.Table), true)
			same(t, what+": one more", len(out.Table.Rows), len(x.Rows)+1)
			sameRows(t, what+": got", impl.TableGet(out.Table, key), [][]impl.Value{row}, impl.OK)
			for _, other := range x.Rows {
				sameRows(t, what+": as it was", impl.TableGet(out.Table, plainKey(x.Schema, other)), [][]impl.Value{other}, impl.OK)
			}
			sameTable(t, what+": twice", impl.TableInsert(out.Table, row), impl.Table{}, impl.ErrThere)
			back := impl.TableDelete(out.Table, key)
			sameTable(t, what+": gone again", back, x, impl.OK)
			sameRows(t, what+": got no more", impl.TableGet(back.Table, key), nil, impl.ErrNone)
			sameTable(t, what+": gone twice", impl.TableDelete(back.Table, key), impl.Table{}, impl.ErrNone)
		}
	}
	if taken < 100 {
		t.Errorf("only %d rows were taken: the test looks at too little", taken)
	}
}

func TestTableUpdate(t *testing.T) {
	x := tableOf(pets(), pet(1, "ada"), pet(2, "rex"), pet(3, "max"))
	older := valuesOf(intOf(2), textOf("rex"), intOf(8))
	sameTable(t, "beside the unique column", impl.TableUpdate(x, older), tableOf(pets(), pet(1, "ada"), older, pet(3, "max")), impl.OK)
	sameTable(t, "the row as it is", impl.TableUpdate(x, pet(2, "rex")), x, impl.OK)
	sameTable(t, "the first", impl.TableUpdate(x, pet(1, "new")), tableOf(pets(), pet(1, "new"), pet(2, "rex"), pet(3, "max")), impl.OK)
	sameTable(t, "the last", impl.TableUpdate(x, pet(3, "new")), tableOf(pets(), pet(1, "ada"), pet(2, "rex"), pet(3, "new")), impl.OK)
	for _, name := range []string{"ada", "max"} {
		sameTable(t, "a clash with "+name, impl.TableUpdate(x, pet(2, name)), impl.Table{}, impl.ErrUnique)
	}
	for _, id := range []int64{0, 4, -2, math.MinInt64} {
		sameTable(t, "no such row", impl.TableUpdate(x, petNamed(id)), impl.Table{}, impl.ErrNone)
	}
	full := manyPets(impl.MaxRows)
	sameTable(t, "in a full table", impl.TableUpdate(full, pet(30, "new")), plainStored(full, pet(30, "new")), impl.OK)
	sameTable(t, "in a full table, no such row", impl.TableUpdate(full, pet(31, "new")), impl.Table{}, impl.ErrNone)
}

func TestTableDelete(t *testing.T) {
	x := tableOf(pets(), pet(1, "ada"), pet(2, "rex"), pet(3, "max"))
	sameTable(t, "the first", impl.TableDelete(x, valuesOf(intOf(1))), tableOf(pets(), pet(2, "rex"), pet(3, "max")), impl.OK)
	sameTable(t, "in between", impl.TableDelete(x, valuesOf(intOf(2))), tableOf(pets(), pet(1, "ada"), pet(3, "max")), impl.OK)
	sameTable(t, "the last", impl.TableDelete(x, valuesOf(intOf(3))), tableOf(pets(), pet(1, "ada"), pet(2, "rex")), impl.OK)
	sameTable(t, "the only one", impl.TableDelete(tableOf(pets(), pet(1, "ada")), valuesOf(intOf(1))), tableOf(pets()), impl.OK)
	sameTable(t, "of a full table", impl.TableDelete(manyPets(impl.MaxRows), valuesOf(intOf(10*impl.MaxRows))), manyPets(impl.MaxRows-1), impl.OK)
	sameTable(t, "what no more clashes", impl.TableInsert(impl.TableDelete(x, valuesOf(intOf(1))).Table, pet(9, "ada")), tableOf(pets(), pet(2, "rex"), pet(3, "max"), pet(9, "ada")), impl.OK)
}

// What is no row's key is none, whatever it is, but for too long a list.
func TestTableNoSuchKey(t *testing.T) {
	row := valuesOf(intOf(7), textOf("a"), null(), null())
	x := tableOf(turned(), row)
	none := func(what string, key []impl.Value) {
		t.Helper()
		sameRows(t, "get: "+what, impl.TableGet(x, key), nil, impl.ErrNone)
		sameTable(t, "delete: "+what, impl.TableDelete(x, key), impl.Table{}, impl.ErrNone)
	}
	sameRows(t, "the key", impl.TableGet(x, valuesOf(textOf("a"), intOf(7))), [][]impl.Value{row}, impl.OK)
	none("nothing", nil)
	none("an empty list", []impl.Value{})
	none("the key's beginning", valuesOf(textOf("a")))
	none("the key's end", valuesOf(intOf(7)))
	none("the columns' order", valuesOf(intOf(7), textOf("a")))
	none("more behind the key", valuesOf(textOf("a"), intOf(7), null()))
	none("the whole row", row)
	none("another kind", valuesOf(textOf("a"), textOf("7")))
	none("nulls", valuesOf(null(), null()))
	none("a text that begins so", valuesOf(textOf("a\x00"), intOf(7)))
	none("as many values as may be", repeated(intOf(7), impl.MaxValues))
	none("a value too many", repeated(intOf(7), impl.MaxValues+1))
	none("as long a list as may be", repeated(intOf(7), impl.MaxList))
	for _, v := range wrongValues() {
		none("a wrong value: "+brief(v), valuesOf(textOf("a"), v))
		none("a wrong value first: "+brief(v), valuesOf(v, intOf(7)))
		none("a wrong value behind the key: "+brief(v), valuesOf(textOf("a"), intOf(7), v))
	}
	x = tableOf(turned())
	none("of no rows", valuesOf(textOf("a"), intOf(7)))
	none("nothing of no rows", nil)
}

// The order of faults.

func TestTableInsertFaults(t *testing.T) {
	refused := func(what string, x impl.Table, row []impl.Value, code int64) {
		t.Helper()
		sameTable(t, what, impl.TableInsert(x, row), impl.Table{}, code)
	}
	x, full := tableOf(pets(), pet(1, "ada"), pet(2, "rex")), manyPets(impl.MaxRows)
	refused("there", x, pet(2, "new"), impl.ErrThere)
	refused("there, and a clash", x, pet(2, "ada"), impl.ErrThere)
	refused("there, in a full table", full, pet(20, "new"), impl.ErrThere)
	refused("there, in a full table, and a clash", full, pet(20, "pet10"), impl.ErrThere)
	refused("full", full, pet(21, "new"), impl.ErrFull)
	refused("full, and a clash", full, pet(21, "pet10"), impl.ErrFull)
	refused("a clash", x, pet(3, "ada"), impl.ErrUnique)
	refused("a clash, one less than full", manyPets(impl.MaxRows-1), pet(21, "pet10"), impl.ErrUnique)
	both := tableOf(turned(), valuesOf(intOf(1), textOf("a"), boolOf(0), intOf(0)))
	refused("a clash in the first index", both, valuesOf(intOf(1), textOf("b"), boolOf(0), intOf(0)), impl.ErrUnique)
	refused("a clash in a later index", both, valuesOf(intOf(2), textOf("a"), boolOf(1), intOf(0)), impl.ErrUnique)
	for _, row := range [][]impl.Value{
		valuesOf(intOf(1), textOf("b"), null(), intOf(0)), valuesOf(intOf(2), textOf("a"), boolOf(0), null()),
		valuesOf(intOf(1), textOf("b"), boolOf(1), intOf(0)), valuesOf(intOf(2), textOf("a"), boolOf(0), intOf(1)),
	} {
		sameTable(t, "no clash: "+brief(row), impl.TableInsert(both, row), plainStored(both, row), impl.OK)
	}
}

// Of rows that are none of a table's own, and of wrong tables, inserts and updates tell the same.
func TestTableRowFaults(t *testing.T) {
	refused := func(what string, x impl.Table, row []impl.Value, code int64) {
		t.Helper()
		sameTable(t, "insert: "+what, impl.TableInsert(x, row), impl.Table{}, code)
		sameTable(t, "update: "+what, impl.TableUpdate(x, row), impl.Table{}, code)
	}
	x, full := tableOf(pets(), pet(1, "ada"), pet(2, "rex")), manyPets(impl.MaxRows)
	for _, y := range []impl.Table{x, full, tableOf(pets())} {
		refused("nothing", y, nil, impl.ErrType)
		refused("too short", y, pet(1, "ada")[:2], impl.ErrType)
		refused("too long", y, append(pet(1, "ada"), null()), impl.ErrType)
		refused("as long a list as may be", y, repeated(intOf(1), impl.MaxList), impl.ErrType)
		refused("too long a list", y, repeated(intOf(1), impl.MaxList+1), impl.ErrSize)
		refused("a null key", y, valuesOf(null(), textOf("ada"), null()), impl.ErrType)
		refused("a null name", y, valuesOf(intOf(1), null(), null()), impl.ErrType)
		refused("another kind", y, valuesOf(intOf(1), textOf("ada"), textOf("9")), impl.ErrType)
		for _, v := range wrongValues() {
			refused("a wrong value: "+brief(v), y, valuesOf(intOf(1), textOf("ada"), v), impl.ErrType)
			refused("a wrong key: "+brief(v), y, valuesOf(v, textOf("ada"), null()), impl.ErrType)
		}
	}
	for why, y := range wrongTables() {
		refused(why, y, pet(77, "new"), impl.ErrForm)
		refused(why+", and there", y, pet(1, "a"), impl.ErrForm)
		refused(why+", and nothing", y, nil, impl.ErrForm)
		refused(why+", and too long a list", y, repeated(intOf(1), impl.MaxList+1), impl.ErrSize)
	}
}

func TestTableKeyFaults(t *testing.T) {
	refused := func(what string, x impl.Table, key []impl.Value, code int64) {
		t.Helper()
		sameRows(t, "get: "+what, impl.TableGet(x, key), nil, code)
		sameTable(t, "delete: "+what, impl.TableDelete(x, key), impl.Table{}, code)
	}
	refused("too long a list", manyPets(3), repeated(intOf(10), impl.MaxList+1), impl.ErrSize)
	for why, x := range wrongTables() {
		refused(why, x, valuesOf(intOf(1)), impl.ErrForm)
		refused(why+", and nothing", x, nil, impl.ErrForm)
		refused(why+", and a wrong key", x, wrongValues(), impl.ErrForm)
		refused(why+", and too long a list", x, repeated(intOf(1), impl.MaxList+1), impl.ErrSize)
	}
}

func TestTableFindFaults(t *testing.T) {
	refused := func(what string, x impl.Table, index int64, values []impl.Value, code int64) {
		t.Helper()
		sameRows(t, what, impl.TableFind(x, index, values), nil, code)
	}
	x := manyPets(3)
	for _, index := range []int64{-1, 2, 4, 1 << 32, math.MaxInt64, math.MinInt64} {
		refused("no such index", x, index, nil, impl.ErrRange)
		refused("no such index, and wrong values", x, index, wrongValues(), impl.ErrRange)
		refused("no such index, and too long a list", x, index, repeated(null(), impl.MaxList+1), impl.ErrSize)
		same(t, "no such index's tree", told(impl.TableIndex(x, index)), told(impl.Tree{}))
	}
	refused("of no indexes", tableOf(least()), 0, nil, impl.ErrRange)
	same(t, "a tree of no indexes", told(impl.TableIndex(tableOf(least(), valuesOf(boolOf(1))), 0)), told(impl.Tree{}))
	for _, index := range []int64{0, 1} {
		refused("as many values as may be", x, index, repeated(textOf("pet10"), impl.MaxValues), impl.OK)
		refused("a value too many", x, index, repeated(textOf("pet10"), impl.MaxValues+1), impl.ErrType)
		refused("as long a list as may be", x, index, repeated(null(), impl.MaxList), impl.ErrType)
		refused("too long a list", x, index, repeated(null(), impl.MaxList+1), impl.ErrSize)
		for _, v := range wrongValues() {
			refused("a wrong value: "+brief(v), x, index, valuesOf(v), impl.ErrType)
			refused("a wrong value behind: "+brief(v), x, index, valuesOf(textOf("pet10"), v), impl.ErrType)
			refused("a wrong value of no rows: "+brief(v), tableOf(pets()), index, valuesOf(v), impl.ErrType)
		}
	}
	for why, y := range wrongTables() {
		refused(why, y, 0, nil, impl.ErrForm)
		refused(why+", and no such index", y, 9, nil, impl.ErrForm)
		refused(why+", and wrong values", y, 0, wrongValues(), impl.ErrForm)
		refused(why+", and too long a list", y, 0, repeated(null(), impl.MaxList+1), impl.ErrSize)
		same(t, why+": its tree", told(impl.TableIndex(y, 0)), told(impl.Tree{}))
	}
}

// Promise 8.

func TestTableFind(t *testing.T) {
	a, b, c := valuesOf(intOf(1), textOf("a"), boolOf(1), null()), valuesOf(intOf(2), textOf("a"), null(), intOf(5)), valuesOf(intOf(0), textOf("b"), boolOf(1), intOf(5))
	d := valuesOf(intOf(1), textOf("b"), null(), null())
	x := tableOf(turned(), a, b, c, d)
	found := func(what string, index int64, values []impl.Value, want ...[]impl.Value) {
		t.Helper()
		sameRows(t, what, impl.TableFind(x, index, values), want, impl.OK)
	}
	found("by nothing", 0, nil, a, b, c, d)
	found("by the first column", 0, valuesOf(boolOf(1)), a, c)
	found("by null", 0, valuesOf(null()), b, d)
	found("by both", 0, valuesOf(boolOf(1), intOf(5)), c)
	found("by both, one null", 0, valuesOf(null(), intOf(5)), b)
	found("by both nulls", 0, valuesOf(null(), null()), d)
	found("by what none has", 0, valuesOf(boolOf(0)))
	found("by one beyond the columns", 0, valuesOf(null(), null(), textOf("b")))
	found("by one beyond the columns, which the key has", 1, valuesOf(intOf(5), textOf("a")))
	found("by more than the columns, which index and key have", 1, valuesOf(intOf(5), textOf("a"), intOf(2)))
	found("by its second column's value", 0, valuesOf(intOf(5)))
	found("by an index that is not unique", 1, valuesOf(intOf(5)), b, c)
	found("by another one", 3, valuesOf(boolOf(1)), a, c)
	found("by a text's beginning", 2, valuesOf(intOf(5), textOf("")))
	found("by a text", 2, valuesOf(intOf(5), textOf("b")), c)
	found("by another kind", 1, valuesOf(textOf("5")))
	x = tableOf(turned())
	found("of no rows", 0, nil)
}

func TestTableIndex(t *testing.T) {
	x := tableOf(pets(), pet(1, "b"), valuesOf(intOf(2), textOf("a"), intOf(-1)), pet(3, "c"), pet(4, "ab"))
	one, two, three, four := "\x02\x80\x00\x00\x00\x00\x00\x00\x01", "\x02\x80\x00\x00\x00\x00\x00\x00\x02", "\x02\x80\x00\x00\x00\x00\x00\x00\x03", "\x02\x80\x00\x00\x00\x00\x00\x00\x04"
	nameTree := impl.Tree{
		Keys: []string{"\x03b\x00\x00" + one}, Vals: []string{one},
		Kids: []impl.Tree{
			{Keys: []string{"\x03a\x00\x00" + two, "\x03ab\x00\x00" + four}, Vals: []string{two, four}},
			{Keys: []string{"\x03c\x00\x00" + three}, Vals: []string{three}},
		},
	}
	same(t, "by name", told(impl.TableIndex(x, 0)), told(nameTree))
	ageTree := impl.Tree{
		Keys: []string{"\x00" + three + three}, Vals: []string{three},
		Kids: []impl.Tree{
			{Keys: []string{"\x00" + one + one}, Vals: []string{one}},
			{Keys: []string{"\x00" + four + four, "\x02\x7f\xff\xff\xff\xff\xff\xff\xff" + two + two}, Vals: []string{four, two}},
		},
	}
	same(t, "by age and id", told(impl.TableIndex(x, 1)), told(ageTree))
	same(t, "of no rows", told(impl.TableIndex(tableOf(pets()), 0)), told(impl.Tree{}))
	same(t, "of a full table", impl.TreeSize(impl.TableIndex(manyPets(impl.MaxRows), 1)), impl.MaxRows)
}

// foundInTree are the keys' bytes of the rows whose keys stand in a tree behind the bytes of these values.
func foundInTree(tree impl.Tree, values []impl.Value) []string {
	keys, vals := pairsOf(tree)
	var rows []string
	for i, k := range keys {
		if strings.HasPrefix(k, bytesOf(values)) {
			rows = append(rows, vals[i])
		}
	}
	slices.Sort(rows)
	return rows
}

func TestFoundAsInTree(t *testing.T) {
	r := rand.New(rand.NewSource(13))
	several := 0
	for what, x := range byName(rightTables()) {
		for index, i := range x.Schema.Indexes {
			tree := impl.TableIndex(x, int64(index))
			same(t, what+": a right tree", impl.TreeRight(tree), true)
			same(t, what+": a key a row", impl.TreeSize(tree), int64(len(x.Rows)))
			for range 6 {
				values := drawList(r, x, i.Columns)
				values = values[:r.Intn(min(len(values), len(i.Columns))+1)]
				if !impl.ValuesRight(values) {
					continue
				}
				var found []string
				for _, row := range impl.TableFind(x, int64(index), values).Rows {
					found = append(found, bytesOf(plainKey(x.Schema, row)))
				}
				if want := foundInTree(tree, values); !slices.Equal(found, want) {
					t.Errorf("%s: index %d by %s: found %q, in the tree %q", what, index, brief(values), found, want)
				}
				if len(values) > 0 && len(found) > 1 {
					several++
				}
			}
		}
	}
	if several < 100 {
		t.Errorf("only %d times several rows were found: the test looks at too little", several)
	}
}

// A tree of a full table of the longest values still has all its rows.
func TestTableLongestValues(t *testing.T) {
	s := impl.Schema{Name: "long"}
	var row []impl.Value
	for i := range impl.MaxColumns {
		s.Columns = append(s.Columns, impl.Column{Name: longName(i), Kind: impl.KindText})
		s.Key = append(s.Key, int64(i))
		row = append(row, textOf(strings.Repeat("\x00", impl.MaxText)))
	}
	s.Indexes = []impl.Index{{Columns: s.Key, Unique: true}}
	x := impl.TableNew(s)
	for i := range impl.MaxRows {
		last := textOf(strings.Repeat("\x00", impl.MaxText-1) + string([]byte{byte('a' + i)}))
		out := impl.TableInsert(x, append(slices.Clone(row[1:]), last))
		same(t, "taken", out.Code, impl.OK)
		x = out.Table
	}
	same(t, "right", impl.TableRight(x), true)
	same(t, "its tree", told(impl.TableIndex(x, 0)), told(plainIndex(x, 0)))
	same(t, "all in it", impl.TreeSize(impl.TableIndex(x, 0)), impl.MaxRows)
	sameRows(t, "found", impl.TableFind(x, 0, row[1:]), x.Rows, impl.OK)
	sameTable(t, "full", impl.TableInsert(x, row), impl.Table{}, impl.ErrFull)
	for _, one := range x.Rows {
		sameRows(t, "got", impl.TableGet(x, one), [][]impl.Value{one}, impl.OK)
	}
}

// Whatever is done to a table, it answers as the document says, word by word.
func TestTableAsPlain(t *testing.T) {
	r := rand.New(rand.NewSource(14))
	codes := map[string]int{}
	for what, x := range byName(rightTables()) {
		for range 8 {
			row := drawRow(r, x.Schema)
			if r.Intn(10) == 0 {
				row[r.Intn(len(row))] = wrongValues()[r.Intn(len(wrongValues()))]
			}
			key := drawList(r, x, x.Schema.Key)
			index := int64(r.Intn(len(x.Schema.Indexes)+3) - 1)
			values := key
			if index >= 0 && index < int64(len(x.Schema.Indexes)) {
				values = drawList(r, x, x.Schema.Indexes[index].Columns)
			}
			ins, upd, rem := plainInsert(x, row), plainUpdate(x, row), plainDelete(x, key)
			sameTable(t, what+": insert", impl.TableInsert(x, row), ins.Table, ins.Code)
			sameTable(t, what+": update", impl.TableUpdate(x, row), upd.Table, upd.Code)
			sameTable(t, what+": delete", impl.TableDelete(x, key), rem.Table, rem.Code)
			got, found := plainGet(x, key), plainFind(x, index, values)
			sameRows(t, what+": get", impl.TableGet(x, key), got.Rows, got.Code)
			sameRows(t, what+": find", impl.TableFind(x, index, values), found.Rows, found.Code)
			same(t, what+": index", told(impl.TableIndex(x, index)), told(plainIndex(x, index)))
			for call, code := range map[string]int64{"insert": ins.Code, "update": upd.Code, "delete": rem.Code, "get": got.Code, "find": found.Code} {
				codes[fmt.Sprint(call, " ", code)]++
			}
		}
	}
	for _, often := range []string{"insert 0", "insert 6", "insert 7", "insert 10", "update 0", "update 8", "update 10", "delete 0", "delete 8", "find 0", "find 6", "find 9"} {
		if codes[often] < 20 {
			t.Errorf("%s came %d times alone: the test looks at too little", often, codes[often])
		}
	}
}

// Tables that are changed somewhere are right, or refused, as the plain rules say.
func TestTableRightAsPlain(t *testing.T) {
	r := rand.New(rand.NewSource(15))
	right := 0
	for what, x := range byName(rightTables()) {
		if len(x.Rows) < 2 {
			continue
		}
		for range 6 {
			y := cloneTable(x)
			a, b := r.Intn(len(y.Rows)), r.Intn(len(y.Rows))
			at := r.Intn(len(y.Schema.Columns))
			switch r.Intn(5) {
			case 0:
				y.Rows[a], y.Rows[b] = y.Rows[b], y.Rows[a]
			case 1, 2:
				y.Rows[a][at] = y.Rows[b][at]
			case 3:
				y.Rows[a] = drawRow(r, y.Schema)
			case 4:
				y.Rows = append(y.Rows, drawRow(r, y.Schema))
			}
			is := plainRight(y)
			same(t, what+": changed to "+tellTable(y), impl.TableRight(y), is)
			if is {
				right++
			}
		}
	}
	if right < 50 {
		t.Errorf("only %d tables stayed right: the test looks at too little", right)
	}
}

// What is handed in stays as it is, and an answer has memory of its own.
func TestTablesAreNotChanged(t *testing.T) {
	x := cloneTable(tableOf(turned(), valuesOf(intOf(1), textOf("a"), null(), null()), valuesOf(intOf(2), textOf("a"), boolOf(1), intOf(5)), valuesOf(intOf(0), textOf("b"), boolOf(1), intOf(6))))
	// There is room behind the rows, and behind each: nothing may come to stand in it.
	x.Rows = slices.Grow(x.Rows, 4)
	for i := range x.Rows {
		x.Rows[i] = slices.Grow(x.Rows[i], 4)
	}
	row, old, key, values := valuesOf(intOf(1), textOf("b"), null(), intOf(9)), valuesOf(intOf(2), textOf("a"), boolOf(0), intOf(9)), valuesOf(textOf("a"), intOf(2)), valuesOf(boolOf(1))
	tell := func() string {
		return tellTable(x) + tellRows([][]impl.Value{row, old, key, values}) + tellRows(x.Rows[:len(x.Rows)+1])
	}
	was := tell()
	given := append(spansOfTable(x, "table"), spansOfRows([][]impl.Value{row, old, key, values}, "list")...)
	lists := map[string][]span{
		"insert": spansOfTable(impl.TableInsert(x, row).Table, "answer"),
		"update": spansOfTable(impl.TableUpdate(x, old).Table, "answer"),
		"delete": spansOfTable(impl.TableDelete(x, key).Table, "answer"),
		"get":    spansOfRows(impl.TableGet(x, key).Rows, "answer"),
		"find":   spansOfRows(impl.TableFind(x, 0, values).Rows, "answer"),
		"index":  spansOf(impl.TableIndex(x, 0), "answer"),
	}
	impl.TableRight(x)
	same(t, "what was handed in", tell(), was)
	for what, l := range lists {
		spansApart(t, what, slices.Concat(given, l))
	}
}

// Lists that share memory as they are handed in don't in the answer.
func TestTableListsApart(t *testing.T) {
	s := pets()
	all := []int64{0, 1, 2}
	s.Key, s.Indexes = all[:1], []impl.Index{{Columns: all[:2]}, {Columns: all}}
	long := valuesOf(intOf(1), textOf("a"), intOf(2), textOf("b"), intOf(3))
	x := tableOf(s, long[:3], long[2:])
	want := tellTable(tableOf(s, long[:3], long[2:], pet(7, "c")))
	spansApart(t, "new", spansOfTable(impl.TableNew(s), "answer"))
	out := impl.TableInsert(x, pet(7, "c")).Table
	same(t, "inserted", tellTable(out), want)
	spansApart(t, "insert", spansOfTable(out, "answer"))
	spansApart(t, "update", spansOfTable(impl.TableUpdate(x, pet(1, "c")).Table, "answer"))
	spansApart(t, "delete", spansOfTable(impl.TableDelete(out, valuesOf(intOf(7))).Table, "answer"))
	spansApart(t, "find", spansOfRows(impl.TableFind(x, 0, nil).Rows, "answer"))
}

// What is done with an answer later leaves the table that it came of as it was.
func TestTableAnswersStay(t *testing.T) {
	r := rand.New(rand.NewSource(16))
	tables, texts := []impl.Table{impl.TableNew(turned())}, []string{tellTable(tableOf(turned()))}
	for range 400 {
		x := tables[r.Intn(len(tables))]
		out := impl.TableOut{Code: impl.ErrNone}
		switch r.Intn(4) {
		case 0:
			out = impl.TableDelete(x, drawList(r, x, x.Schema.Key))
		case 1:
			out = impl.TableUpdate(x, drawRow(r, x.Schema))
		default:
			out = impl.TableInsert(tables[len(tables)-1], drawRow(r, x.Schema))
		}
		if out.Code == impl.OK {
			tables, texts = append(tables, out.Table), append(texts, tellTable(out.Table))
		}
	}
	for i := range tables {
		same(t, "table "+strconv.Itoa(i), tellTable(tables[i]), texts[i])
		same(t, "right "+strconv.Itoa(i), impl.TableRight(tables[i]), true)
	}
}
