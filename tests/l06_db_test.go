package tests

import (
	"encoding/binary"
	"fmt"
	"math"
	"math/rand"
	"slices"
	"strconv"
	"strings"
	"testing"

	"loop.example/g00271/impl"
)

func createOp(s impl.Schema) impl.Op { return impl.Op{Kind: impl.OpCreate, Schema: s} }

func insertOp(table string, row ...impl.Value) impl.Op {
	return impl.Op{Kind: impl.OpInsert, Table: table, Row: row}
}

func updateOp(table string, row ...impl.Value) impl.Op {
	return impl.Op{Kind: impl.OpUpdate, Table: table, Row: row}
}

func deleteOp(table string, key ...impl.Value) impl.Op {
	return impl.Op{Kind: impl.OpDelete, Table: table, Row: key}
}

func opsOf(ops ...impl.Op) []impl.Op { return ops }

// dbOf is a database of these tables, right or not.
func dbOf(tables ...impl.Table) impl.Db { return impl.Db{Tables: tables} }

// named is a schema by another name.
func named(s impl.Schema, name string) impl.Schema {
	s = cloneSchema(s)
	s.Name = name
	return s
}

// smallTables are so many tables of one column, rising by their names, each with a row.
func smallTables(many int) []impl.Table {
	var l []impl.Table
	for i := range many {
		l = append(l, tableOf(named(least(), fmt.Sprintf("t%03d", i)), valuesOf(boolOf(int64(i%2)))))
	}
	return l
}

// tellDb tells a database in all its parts; an empty list and none are told alike.
func tellDb(d impl.Db) string { return fmt.Sprintf("%+v", d) }

func tellOps(l []impl.Op) string { return fmt.Sprintf("%+v", l) }

func sameDb(t *testing.T, what string, got impl.DbOut, want impl.DbOut) {
	t.Helper()
	if got.Code != want.Code || got.At != want.At || tellDb(got.Db) != tellDb(want.Db) {
		t.Errorf("%s: got %s, want %s", what, brief(got), brief(want))
	}
}

func sameOps(t *testing.T, what string, got impl.OpsOut, want []impl.Op, code int64) {
	t.Helper()
	if got.Code != code || tellOps(got.Ops) != tellOps(want) {
		t.Errorf("%s: got %s, want %s with code %d", what, brief(got), brief(want), code)
	}
}

func spansOfDb(d impl.Db, what string) []span {
	l := []span{spanOf(d.Tables, what+" Tables")}
	for i, x := range d.Tables {
		l = append(l, spansOfTable(x, what+" table "+strconv.Itoa(i))...)
	}
	return l
}

func spansOfOps(ops []impl.Op, what string) []span {
	l := []span{spanOf(ops, what+" Ops")}
	for i, op := range ops {
		l = append(l, spansOfSchema(op.Schema, what+" op "+strconv.Itoa(i))...)
		l = append(l, spanOf(op.Row, what+" row of op "+strconv.Itoa(i)))
	}
	return l
}

func cloneDb(d impl.Db) impl.Db {
	var c impl.Db
	for _, x := range d.Tables {
		c.Tables = append(c.Tables, cloneTable(x))
	}
	return c
}

// The plain functions do what the document says on lists alone, in another way than the program.

func plainDbRight(d impl.Db) bool {
	for i, x := range d.Tables {
		if !plainRight(x) || i > 0 && strings.Compare(d.Tables[i-1].Schema.Name, x.Schema.Name) != -1 {
			return false
		}
	}
	return len(d.Tables) <= impl.MaxTables
}

func plainOpsRight(l []impl.Op) bool {
	wrong := func(op impl.Op) bool {
		none := alikeSchemas(op.Schema, impl.Schema{})
		if op.Kind == impl.OpCreate {
			return !impl.SchemaRight(op.Schema) || len(op.Table)+len(op.Row) > 0
		}
		return op.Kind < impl.OpCreate || op.Kind > impl.OpDelete || !none || !impl.NameRight(op.Table) || !impl.ValuesRight(op.Row)
	}
	return len(l) > 0 && len(l) <= impl.MaxOps && !slices.ContainsFunc(l, wrong)
}

// plainOp tells the tables behind an op, or its code.
func plainOp(tables []impl.Table, op impl.Op) ([]impl.Table, int64) {
	name := op.Table + op.Schema.Name
	at := slices.IndexFunc(tables, func(x impl.Table) bool { return x.Schema.Name == name })
	if op.Kind == impl.OpCreate {
		switch {
		case at >= 0:
			return nil, impl.ErrThere
		case len(tables) >= impl.MaxTables:
			return nil, impl.ErrFull
		}
		made := append(slices.Clone(tables), impl.Table{Schema: op.Schema})
		slices.SortFunc(made, func(a, b impl.Table) int { return strings.Compare(a.Schema.Name, b.Schema.Name) })
		return made, impl.OK
	}
	if at < 0 {
		return nil, impl.ErrNone
	}
	do := map[int64]func(impl.Table, []impl.Value) impl.TableOut{impl.OpInsert: plainInsert, impl.OpUpdate: plainUpdate, impl.OpDelete: plainDelete}
	out := do[op.Kind](tables[at], op.Row)
	made := slices.Clone(tables)
	made[at] = out.Table
	return made, out.Code
}

func plainTx(d impl.Db, l []impl.Op) impl.DbOut {
	switch {
	case len(l) > impl.MaxList:
		return impl.DbOut{Code: impl.ErrSize}
	case !plainDbRight(d) || !plainOpsRight(l):
		return impl.DbOut{Code: impl.ErrForm}
	}
	tables := d.Tables
	for i, op := range l {
		made, code := plainOp(tables, op)
		if code != impl.OK {
			return impl.DbOut{At: int64(i), Code: code}
		}
		tables = made
	}
	return impl.DbOut{Db: dbOf(tables...)}
}

func appendText(b []byte, t string) []byte {
	return append(binary.AppendVarint(b, int64(len(t))), t...)
}

// opsText writes the bytes of any ops as the document says, in another way than the program.
func opsText(l []impl.Op) string {
	b := binary.AppendVarint(nil, int64(len(l)))
	for _, op := range l {
		b = binary.AppendVarint(b, op.Kind)
		if op.Kind == impl.OpCreate {
			b = appendText(b, shapeOf(op.Schema))
			continue
		}
		b = appendText(b, op.Table)
		b = appendText(b, bytesOf(op.Row))
	}
	return string(b)
}

// dbText writes the bytes of any database likewise.
func dbText(d impl.Db) string {
	b := binary.AppendVarint(nil, int64(len(d.Tables)))
	for _, x := range d.Tables {
		b = appendText(b, shapeOf(x.Schema))
		b = binary.AppendVarint(b, int64(len(x.Rows)))
		for _, row := range x.Rows {
			b = appendText(b, bytesOf(row))
		}
	}
	return string(b)
}

// Databases and ops to try.

// petShop is an ordinary database.
func petShop() impl.Db {
	return dbOf(
		tableOf(named(pets(), "cats"), pet(1, "tom")),
		tableOf(pets(), pet(1, "ada"), pet(2, "rex")),
		tableOf(turned(), valuesOf(intOf(1), textOf("a"), boolOf(1), null())),
	)
}

func rightDbs() map[string]impl.Db {
	r := rand.New(rand.NewSource(21))
	right := map[string]impl.Db{
		"none":                 dbOf(),
		"an empty list":        {Tables: []impl.Table{}},
		"one without rows":     dbOf(tableOf(pets())),
		"one with rows":        dbOf(manyPets(3)),
		"the pet shop":         petShop(),
		"as many as may be":    dbOf(smallTables(impl.MaxTables)...),
		"full":                 dbOf(manyPets(impl.MaxRows), tableOf(named(pets(), "pets_"), pet(1, "pet10"))),
		"names' order":         dbOf(tableOf(named(least(), "a")), tableOf(named(least(), "a0")), tableOf(named(least(), "a_")), tableOf(named(least(), "aa")), tableOf(named(least(), "b"))),
		"the longest names":    dbOf(tableOf(greatest()), tableOf(named(greatest(), longName(1)))),
		"rows alike elsewhere": dbOf(tableOf(named(pets(), "a"), pet(1, "x")), tableOf(named(pets(), "b"), pet(1, "x"))),
	}
	right["longer than a text"] = dbOfSize(2 * impl.MaxBytes)
	schemas := tableSchemas()
	for i := range 40 {
		var d impl.Db
		for j := range r.Intn(impl.MaxTables + 1) {
			x := tableOf(named(schemas[r.Intn(len(schemas))], "n"+strconv.Itoa(j)))
			for range r.Intn(25) {
				x = plainDrawn(r, x)
			}
			d.Tables = append(d.Tables, x)
		}
		right["drawn "+strconv.Itoa(i)] = d
	}
	return right
}

// wrongDbs are not right, each for one reason, which its name tells.
func wrongDbs() map[string]impl.Db {
	a, b, c := tableOf(named(pets(), "a"), pet(1, "x")), tableOf(named(pets(), "b")), tableOf(named(least(), "c"))
	wrong := map[string]impl.Db{
		"a table too many":          dbOf(smallTables(impl.MaxTables + 1)...),
		"far too many tables":       dbOf(smallTables(impl.MaxList + 1)...),
		"falling":                   dbOf(b, a),
		"falling at the end":        dbOf(a, c, b),
		"falling at the front":      dbOf(b, a, c),
		"a table twice":             dbOf(a, a),
		"a name twice":              dbOf(a, tableOf(named(least(), "a"))),
		"a name twice at the end":   dbOf(a, b, tableOf(named(least(), "b"))),
		"a longer name ahead":       dbOf(tableOf(named(least(), "aa")), tableOf(named(least(), "a"))),
		"an underline ahead of a 0": dbOf(tableOf(named(least(), "a_")), tableOf(named(least(), "a0"))),
		"the zero table":            dbOf(impl.Table{}),
		"the zero table first":      dbOf(impl.Table{}, a),
		"the zero table last":       dbOf(a, impl.Table{}),
	}
	for why, x := range wrongTables() {
		wrong["alone: "+why] = dbOf(x)
		wrong["behind another: "+why] = dbOf(tableOf(named(least(), "a")), x)
		wrong["ahead of another: "+why] = dbOf(x, tableOf(named(least(), "zz")))
	}
	return wrong
}

func rightOps() map[string][]impl.Op {
	right := map[string][]impl.Op{
		"create":              opsOf(createOp(pets())),
		"create, empty lists": opsOf(impl.Op{Kind: impl.OpCreate, Schema: least(), Row: []impl.Value{}}),
		"insert":              opsOf(insertOp("pets", pet(1, "rex")...)),
		"update":              opsOf(updateOp("pets", pet(1, "rex")...)),
		"delete":              opsOf(deleteOp("pets", intOf(1))),
		"no values":           opsOf(insertOp("a"), updateOp("a"), deleteOp("a")),
		"empty lists":         opsOf(impl.Op{Kind: impl.OpDelete, Table: "a", Schema: impl.Schema{Columns: []impl.Column{}, Key: []int64{}, Indexes: []impl.Index{}}, Row: []impl.Value{}}),
		"one of each":         opsOf(createOp(turned()), insertOp("t", null()), updateOp("u", boolOf(1), intOf(2)), deleteOp("v", textOf("\x00"))),
		"as many as may be":   slices.Repeat(opsOf(deleteOp("pets", intOf(1))), impl.MaxOps),
		"creates alone":       slices.Repeat(opsOf(createOp(greatest())), impl.MaxOps),
		"the longest":         slices.Repeat(opsOf(insertOp(longName(1), repeated(textOf(strings.Repeat("\x00", impl.MaxText)), impl.MaxValues)...)), impl.MaxOps),
	}
	r := rand.New(rand.NewSource(22))
	for i, s := range rightSchemas() {
		right["create "+strconv.Itoa(i)] = opsOf(createOp(s))
	}
	lists := append(someValues(300), edgeValues()[:impl.MaxValues])
	for i := range 400 {
		var l []impl.Op
		for range 1 + r.Intn(6) {
			l = append(l, impl.Op{Kind: int64(2 + r.Intn(3)), Table: "t" + strconv.Itoa(r.Intn(9)), Row: lists[r.Intn(len(lists))]})
		}
		right["drawn "+strconv.Itoa(i)] = l
	}
	return right
}

// otherKinds are of no op.
func otherKinds() []int64 {
	return []int64{0, -1, 5, 256 + impl.OpCreate, 1 << 32, math.MaxInt64, math.MinInt64}
}

func wrongNames() []string {
	return []string{"", "Pets", "9a", "_a", "a-b", "a b", "a\x00", "é", strings.Repeat("a", 21), strings.Repeat("a", 300)}
}

// wrongOps are not right, each for one reason, which its name tells, and which can be seen in their bytes.
func wrongOps() map[string][]impl.Op {
	wrong := map[string][]impl.Op{
		"none":               nil,
		"an empty list":      {},
		"an op too many":     slices.Repeat(opsOf(deleteOp("pets", intOf(1))), impl.MaxOps+1),
		"as many as a list":  slices.Repeat(opsOf(deleteOp("pets", intOf(1))), impl.MaxList),
		"the zero op":        opsOf(impl.Op{}),
		"create of nothing":  opsOf(impl.Op{Kind: impl.OpCreate}),
		"a create too many":  slices.Repeat(opsOf(createOp(least())), impl.MaxOps+1),
		"the last is no op":  opsOf(insertOp("pets"), impl.Op{}),
		"the first is no op": opsOf(impl.Op{}, insertOp("pets")),
	}
	for _, kind := range otherKinds() {
		wrong["of Kind "+strconv.FormatInt(kind, 10)] = opsOf(impl.Op{Kind: kind, Table: "pets", Row: pet(1, "rex")})
		wrong["last of Kind "+strconv.FormatInt(kind, 10)] = opsOf(createOp(pets()), impl.Op{Kind: kind, Table: "pets", Row: pet(1, "rex")})
	}
	for why, s := range wrongSchemas() {
		wrong["create: "+why] = opsOf(createOp(s))
		wrong["create, behind others: "+why] = opsOf(createOp(least()), insertOp("a", boolOf(1)), createOp(s))
	}
	for _, kind := range []int64{impl.OpInsert, impl.OpUpdate, impl.OpDelete} {
		of := "of " + strconv.FormatInt(kind, 10) + ": "
		for _, name := range wrongNames() {
			wrong[of+"table "+name] = opsOf(impl.Op{Kind: kind, Table: name, Row: pet(1, "rex")})
		}
		wrong[of+"a value too many"] = opsOf(impl.Op{Kind: kind, Table: "a", Row: repeated(intOf(1), impl.MaxValues+1)})
		wrong[of+"far too many values"] = opsOf(impl.Op{Kind: kind, Table: "a", Row: repeated(null(), impl.MaxList+1)})
		wrong[of+"a wrong bool"] = opsOf(impl.Op{Kind: kind, Table: "a", Row: valuesOf(intOf(1), boolOf(2))})
		wrong[of+"too long a text"] = opsOf(impl.Op{Kind: kind, Table: "a", Row: valuesOf(textOf(strings.Repeat("a", impl.MaxText+1)))})
		wrong[of+"no kind of value"] = opsOf(impl.Op{Kind: kind, Table: "a", Row: valuesOf(impl.Value{Kind: 4})})
	}
	return wrong
}

// wrongBeside are not right for what does not stand in ops' bytes.
func wrongBeside() map[string][]impl.Op {
	wrong := map[string][]impl.Op{
		"create with a table":       opsOf(impl.Op{Kind: impl.OpCreate, Table: "pets", Schema: pets()}),
		"create with a row":         opsOf(impl.Op{Kind: impl.OpCreate, Schema: pets(), Row: pet(1, "rex")}),
		"create with a null":        opsOf(impl.Op{Kind: impl.OpCreate, Schema: pets(), Row: valuesOf(null())}),
		"create, its table instead": opsOf(impl.Op{Kind: impl.OpCreate, Table: "pets", Row: pet(1, "rex")}),
		"far too many ops":          slices.Repeat(opsOf(deleteOp("pets", intOf(1))), impl.MaxList+1),
	}
	parts := map[string]impl.Schema{
		"whole": pets(), "name": {Name: "pets"}, "a wrong name": {Name: "-"}, "columns": {Columns: pets().Columns},
		"a zero column": {Columns: make([]impl.Column, 1)}, "key": {Key: []int64{0}}, "indexes": {Indexes: make([]impl.Index, 1)},
	}
	for _, kind := range []int64{impl.OpInsert, impl.OpUpdate, impl.OpDelete} {
		of := "of " + strconv.FormatInt(kind, 10) + ": "
		for part, s := range parts {
			wrong[of+"a schema, "+part] = opsOf(impl.Op{Kind: kind, Table: "pets", Schema: s, Row: pet(1, "rex")})
		}
		for i, v := range wrongValues() {
			wrong[of+"wrong value "+strconv.Itoa(i)] = opsOf(impl.Op{Kind: kind, Table: "pets", Row: valuesOf(v)})
			wrong[of+"wrong value behind others "+strconv.Itoa(i)] = opsOf(createOp(pets()), impl.Op{Kind: kind, Table: "pets", Row: append(pet(1, "rex"), v)})
		}
	}
	for _, kind := range otherKinds() {
		wrong["a schema of Kind "+strconv.FormatInt(kind, 10)] = opsOf(impl.Op{Kind: kind, Schema: pets()})
		wrong["nothing of Kind "+strconv.FormatInt(kind, 10)] = opsOf(impl.Op{Kind: kind})
	}
	return wrong
}

// What is right.

func TestDbRight(t *testing.T) {
	for what, d := range byName(rightDbs()) {
		same(t, what, impl.DbRight(d), true)
		same(t, what+", plainly", plainDbRight(d), true)
	}
	for why, d := range wrongDbs() {
		same(t, why, impl.DbRight(d), false)
	}
}

func TestOpsRight(t *testing.T) {
	for what, l := range byName(rightOps()) {
		same(t, what, impl.OpsRight(l), true)
		same(t, what+", plainly", plainOpsRight(l), true)
	}
	for why, l := range wrongOps() {
		same(t, why, impl.OpsRight(l), false)
	}
	for why, l := range wrongBeside() {
		same(t, why, impl.OpsRight(l), false)
	}
}

func TestDbTable(t *testing.T) {
	none := tellTable(impl.Table{})
	for what, d := range byName(rightDbs()) {
		for _, x := range d.Tables {
			got := impl.DbTable(d, x.Schema.Name)
			same(t, what, tellTable(got), tellTable(x))
			spansApart(t, what, append(spansOfDb(cloneDb(d), "another"), spansOfTable(got, "answer")...))
			spansApart(t, what+": from what was handed in", append(spansOfTable(x, "handed in"), spansOfTable(got, "answer")...))
		}
		for _, name := range append(wrongNames(), "no", "n", "n00", "pet", "petss", "zz", "t00", "\x00", strings.Repeat("a", impl.MaxBytes), strings.Repeat("a", tooLong)) {
			same(t, what+": no "+brief(name), tellTable(impl.DbTable(d, name)), none)
		}
	}
	for why, d := range wrongDbs() {
		same(t, why+": no name", tellTable(impl.DbTable(d, "")), none)
		for _, x := range d.Tables[:min(len(d.Tables), 3)] {
			same(t, why, tellTable(impl.DbTable(d, x.Schema.Name)), none)
		}
	}
}

// Promise 9.

func TestDbTx(t *testing.T) {
	done := func(what string, d impl.Db, l []impl.Op, want ...impl.Table) {
		t.Helper()
		sameDb(t, what, impl.DbTx(d, l), impl.DbOut{Db: dbOf(want...)})
	}
	one := dbOf(tableOf(pets(), pet(1, "ada"), pet(2, "rex")))
	done("the first table", impl.Db{}, opsOf(createOp(pets())), tableOf(pets()))
	done("made and filled", impl.Db{}, opsOf(createOp(pets()), insertOp("pets", pet(2, "rex")...), insertOp("pets", pet(1, "ada")...)), one.Tables...)
	done("a table ahead", one, opsOf(createOp(named(least(), "peta"))), tableOf(named(least(), "peta")), one.Tables[0])
	done("a table behind", one, opsOf(createOp(named(least(), "pets0"))), one.Tables[0], tableOf(named(least(), "pets0")))
	done("tables made falling", impl.Db{}, opsOf(createOp(named(least(), "b")), createOp(named(least(), "a_")), createOp(named(least(), "a0"))), tableOf(named(least(), "a0")), tableOf(named(least(), "a_")), tableOf(named(least(), "b")))
	done("an update", one, opsOf(updateOp("pets", pet(2, "max")...)), tableOf(pets(), pet(1, "ada"), pet(2, "max")))
	done("a delete", one, opsOf(deleteOp("pets", intOf(1))), tableOf(pets(), pet(2, "rex")))
	done("names that change places", one, opsOf(deleteOp("pets", intOf(1)), updateOp("pets", pet(2, "ada")...), insertOp("pets", pet(1, "rex")...)), tableOf(pets(), pet(1, "rex"), pet(2, "ada")))
	done("come and gone", one, opsOf(insertOp("pets", pet(3, "max")...), deleteOp("pets", intOf(3))), one.Tables...)
	done("updated again and again", one, opsOf(updateOp("pets", pet(1, "a")...), updateOp("pets", pet(1, "b")...), updateOp("pets", pet(1, "c")...)), tableOf(pets(), pet(1, "c"), pet(2, "rex")))
	shop := petShop()
	row := valuesOf(intOf(0), textOf("b"), boolOf(1), null())
	done("in several tables", shop, opsOf(deleteOp("pets", intOf(1)), insertOp("turned", row...), insertOp("cats", pet(2, "ada")...)),
		tableOf(named(pets(), "cats"), pet(1, "tom"), pet(2, "ada")), tableOf(pets(), pet(2, "rex")), tableOf(turned(), shop.Tables[2].Rows[0], row))
	done("a key in its own order", shop, opsOf(deleteOp("turned", textOf("a"), intOf(1))), shop.Tables[0], shop.Tables[1], tableOf(turned()))
	seven := smallTables(impl.MaxTables)
	done("the last that may be", dbOf(seven[:impl.MaxTables-1]...), opsOf(createOp(seven[7].Schema), insertOp("t007", boolOf(1))), seven...)
	done("as many ops as may be", dbOf(tableOf(pets())), insertsOf(impl.MaxOps), tableOf(pets(), manyPets(impl.MaxOps).Rows...))
	done("the last row that may be", dbOf(manyPets(impl.MaxRows-1)), opsOf(insertOp("pets", petNamed(10*impl.MaxRows)...)), manyPets(impl.MaxRows))
	done("a row for another, in a full table", dbOf(manyPets(impl.MaxRows)), opsOf(deleteOp("pets", intOf(600)), insertOp("pets", petNamed(600)...)), manyPets(impl.MaxRows))
}

// insertsOf are so many inserts of the rows of manyPets.
func insertsOf(many int) []impl.Op {
	var l []impl.Op
	for _, row := range manyPets(many).Rows {
		l = append(l, insertOp("pets", row...))
	}
	return l
}

// refusedOps are ops that the pet shop refuses, by the code.
func refusedOps() map[int64][]impl.Op {
	return map[int64][]impl.Op{
		impl.ErrThere: {
			createOp(pets()), createOp(named(least(), "turned")), insertOp("pets", pet(1, "new")...), insertOp("pets", pet(2, "ada")...),
		},
		impl.ErrNone: {
			insertOp("dogs", pet(9, "new")...), updateOp("dogs", pet(9, "new")...), deleteOp("dogs", intOf(1)),
			insertOp("dogs"), updateOp("dogs", boolOf(1)), deleteOp("dogs"), insertOp("pet", pet(9, "new")...), insertOp("petss", pet(9, "new")...),
			updateOp("pets", pet(9, "new")...), updateOp("pets", pet(9, "ada")...), deleteOp("pets", intOf(9)), deleteOp("pets"), deleteOp("pets", pet(1, "ada")...),
			deleteOp("pets", textOf("ada")), deleteOp("pets", repeated(intOf(1), impl.MaxValues)...), deleteOp("turned", intOf(1), textOf("a")),
		},
		impl.ErrType: {
			insertOp("pets"), updateOp("pets"), insertOp("pets", intOf(1)), updateOp("pets", append(pet(1, "ada"), null())...),
			insertOp("pets", null(), textOf("new"), null()), updateOp("pets", intOf(1), null(), null()), insertOp("pets", repeated(intOf(1), impl.MaxValues)...),
			insertOp("pets", intOf(1), textOf("ada"), boolOf(0)), updateOp("pets", intOf(9), textOf("ada"), boolOf(0)),
		},
		impl.ErrUnique: {
			insertOp("pets", pet(9, "ada")...), updateOp("pets", pet(2, "ada")...), insertOp("pets", pet(-1, "rex")...), updateOp("pets", pet(1, "rex")...),
		},
	}
}

// Wherever the op stands that is refused, it is told, and nothing else is.
func TestDbTxRefused(t *testing.T) {
	d := petShop()
	was := tellDb(d)
	good := opsOf(createOp(named(least(), "birds")), insertOp("birds", boolOf(1)), updateOp("cats", pet(1, "kit")...), deleteOp("birds", boolOf(1)))
	for code, ops := range refusedOps() {
		for _, op := range ops {
			for at := range len(good) + 1 {
				l := slices.Concat(good[:at], opsOf(op), good[at:])
				sameDb(t, tellOps(l), impl.DbTx(d, l), impl.DbOut{At: int64(at), Code: code})
			}
			last := append(slices.Repeat(opsOf(updateOp("cats", pet(1, "kit")...)), impl.MaxOps-1), op)
			sameDb(t, "the last of as many as may be", impl.DbTx(d, last), impl.DbOut{At: impl.MaxOps - 1, Code: code})
			for later, others := range refusedOps() {
				sameDb(t, "the first of two", impl.DbTx(d, opsOf(good[0], op, others[0])), impl.DbOut{At: 1, Code: code})
				sameDb(t, "the first of two", impl.DbTx(d, opsOf(others[0], op)), impl.DbOut{At: 0, Code: later})
			}
		}
	}
	same(t, "the database", tellDb(d), was)
	sameDb(t, "all that is not refused", impl.DbTx(d, good), plainTx(d, good))
}

// What is refused hangs on the ops ahead, not on those behind.
func TestDbTxOneBehindTheOther(t *testing.T) {
	d := petShop()
	refused := func(what string, at int64, code int64, l ...impl.Op) {
		t.Helper()
		sameDb(t, what, impl.DbTx(d, l), impl.DbOut{At: at, Code: code})
	}
	refused("ahead of its table", 0, impl.ErrNone, insertOp("dogs", pet(1, "a")...), createOp(named(pets(), "dogs")))
	refused("made twice", 1, impl.ErrThere, createOp(named(pets(), "dogs")), createOp(named(least(), "dogs")))
	refused("put in twice", 1, impl.ErrThere, insertOp("pets", pet(3, "a")...), insertOp("pets", pet(3, "b")...))
	refused("a clash with one put in", 1, impl.ErrUnique, insertOp("pets", pet(3, "a")...), insertOp("pets", pet(4, "a")...))
	refused("a clash that would go", 0, impl.ErrUnique, insertOp("pets", pet(3, "ada")...), deleteOp("pets", intOf(1)))
	refused("gone twice", 1, impl.ErrNone, deleteOp("pets", intOf(1)), deleteOp("pets", intOf(1)))
	refused("gone, and updated", 1, impl.ErrNone, deleteOp("pets", intOf(1)), updateOp("pets", pet(1, "a")...))
	refused("of the table that is made", 1, impl.ErrType, createOp(named(least(), "dogs")), insertOp("dogs", pet(1, "a")...))
}

func TestDbTxFull(t *testing.T) {
	tables := smallTables(impl.MaxTables)
	full := dbOf(tables...)
	sameDb(t, "a table too many", impl.DbTx(full, opsOf(createOp(pets()))), impl.DbOut{Code: impl.ErrFull})
	sameDb(t, "a table ahead of all", impl.DbTx(full, opsOf(createOp(named(pets(), "a")))), impl.DbOut{Code: impl.ErrFull})
	for _, x := range tables {
		sameDb(t, "full, and there", impl.DbTx(full, opsOf(createOp(x.Schema))), impl.DbOut{Code: impl.ErrThere})
	}
	two := opsOf(createOp(named(pets(), "t9")), createOp(pets()))
	sameDb(t, "full by the op ahead", impl.DbTx(dbOf(tables[:impl.MaxTables-1]...), two), impl.DbOut{At: 1, Code: impl.ErrFull})
	var nine []impl.Op
	for _, x := range smallTables(impl.MaxTables + 1) {
		nine = append(nine, createOp(x.Schema))
	}
	sameDb(t, "of nothing", impl.DbTx(impl.Db{}, nine), impl.DbOut{At: impl.MaxTables, Code: impl.ErrFull})
	rows := dbOf(manyPets(impl.MaxRows - 2))
	sameDb(t, "rows", impl.DbTx(rows, opsOf(insertOp("pets", petNamed(1)...), insertOp("pets", petNamed(2)...), insertOp("pets", petNamed(3)...))), impl.DbOut{At: 2, Code: impl.ErrFull})
	sameDb(t, "rows, and there", impl.DbTx(dbOf(manyPets(impl.MaxRows)), opsOf(insertOp("pets", petNamed(10)...))), impl.DbOut{Code: impl.ErrThere})
	sameDb(t, "rows, and no row", impl.DbTx(dbOf(manyPets(impl.MaxRows)), opsOf(insertOp("pets"))), impl.DbOut{Code: impl.ErrType})
}

// What is not right is refused ahead of the ops, too long a list ahead of that.
func TestDbTxForm(t *testing.T) {
	long := slices.Repeat(opsOf(deleteOp("pets", intOf(1))), impl.MaxList+1)
	good := opsOf(createOp(named(least(), "birds")))
	bad := append(good, insertOp("dogs"))
	form, size := impl.DbOut{Code: impl.ErrForm}, impl.DbOut{Code: impl.ErrSize}
	for why, d := range wrongDbs() {
		sameDb(t, why, impl.DbTx(d, good), form)
		sameDb(t, why+", and refused", impl.DbTx(d, bad), form)
		sameDb(t, why+", and no ops", impl.DbTx(d, nil), form)
		sameDb(t, why+", and too long a list", impl.DbTx(d, long), size)
	}
	for _, wrong := range []map[string][]impl.Op{wrongOps(), wrongBeside()} {
		for why, l := range wrong {
			want := form
			if len(l) > impl.MaxList {
				want = size
			}
			for _, d := range []impl.Db{petShop(), {}, dbOf(impl.Table{})} {
				sameDb(t, why, impl.DbTx(d, l), want)
			}
			if len(l) > 0 && len(l) < impl.MaxOps {
				sameDb(t, why+", behind one refused", impl.DbTx(petShop(), append(opsOf(insertOp("dogs")), l...)), form)
			}
		}
	}
	sameDb(t, "too long a list", impl.DbTx(petShop(), long), size)
	sameDb(t, "too long a list of no ops", impl.DbTx(petShop(), make([]impl.Op, impl.MaxList+1)), size)
	sameDb(t, "as long a list as may be", impl.DbTx(petShop(), long[:impl.MaxList]), form)
}

// drawOp draws a right op, of a table that is there most often.
func drawOp(r *rand.Rand, d impl.Db) impl.Op {
	schemas := []impl.Schema{pets(), least(), nullable(), turned()}
	if len(d.Tables) == 0 || r.Intn(8) == 0 {
		return createOp(named(schemas[r.Intn(len(schemas))], "n"+strconv.Itoa(r.Intn(12))))
	}
	x := d.Tables[r.Intn(len(d.Tables))]
	op := impl.Op{Kind: int64(2 + r.Intn(3)), Table: x.Schema.Name, Row: drawRow(r, x.Schema)}
	if op.Kind == impl.OpUpdate && len(x.Rows) > 0 {
		old := x.Rows[r.Intn(len(x.Rows))]
		for _, n := range x.Schema.Key {
			op.Row[n] = old[n]
		}
	}
	if op.Kind == impl.OpDelete {
		op.Row = drawList(r, x, x.Schema.Key)
	}
	switch r.Intn(20) {
	case 0:
		op.Table = "no"
	case 1:
		op.Row = op.Row[:len(op.Row)/2]
	}
	if !plainOpsRight(opsOf(op)) {
		op.Row = nil
	}
	return op
}

// drawOps draws ops most of which are taken, one behind the other.
func drawOps(r *rand.Rand, d impl.Db, many int) []impl.Op {
	var l []impl.Op
	for len(l) < many {
		op := drawOp(r, d)
		made, code := plainOp(d.Tables, op)
		if code == impl.OK {
			d = dbOf(made...)
		} else if r.Intn(12) > 0 {
			continue
		}
		l = append(l, op)
	}
	return l
}

// A transaction is all its ops, each behind the one ahead, or nothing: whatever the ops are.
func TestDbTxWholeOrNotAtAll(t *testing.T) {
	r := rand.New(rand.NewSource(23))
	codes, latest := map[int64]int{}, int64(0)
	for what, d := range byName(rightDbs()) {
		for range 30 {
			l := drawOps(r, d, 1+r.Intn(impl.MaxOps))
			was := tellDb(d)
			out := impl.DbTx(d, l)
			sameDb(t, what, out, plainTx(d, l))
			same(t, what+": what was handed in", tellDb(d), was)
			same(t, what+": right", impl.DbRight(out.Db), true)
			codes[out.Code]++
			latest = max(latest, out.At)
			step, taken := d, int64(0)
			for _, op := range l {
				one := impl.DbTx(step, opsOf(op))
				if one.Code != impl.OK {
					sameDb(t, what+": alone", one, impl.DbOut{Code: out.Code})
					break
				}
				step, taken = one.Db, taken+1
			}
			if out.Code == impl.OK {
				same(t, what+": one by one", tellDb(step), tellDb(out.Db))
				continue
			}
			same(t, what+": as many as are taken one by one", taken, out.At)
			if taken > 0 {
				sameDb(t, what+": all ahead of it", impl.DbTx(d, l[:taken]), impl.DbOut{Db: step})
			}
		}
	}
	for _, code := range []int64{impl.OK, impl.ErrType, impl.ErrThere, impl.ErrNone, impl.ErrUnique} {
		if codes[code] < 10 {
			t.Errorf("the code %d came %d times alone: the test looks at too little", code, codes[code])
		}
	}
	if latest < 10 {
		t.Errorf("at most %d ops were taken ahead of one refused: the test looks at too little", latest)
	}
}

// Promise 10, ops.

func TestOpsBytes(t *testing.T) {
	same(t, "a create", impl.OpsBytes(opsOf(createOp(least()))), "\x02\x02\x14\x02a\x02\x02a\x02\x00\x02\x00\x00")
	same(t, "an insert", impl.OpsBytes(opsOf(insertOp("pets", null(), boolOf(1)))), "\x02\x04\x08pets\x06\x00\x01\x01")
	same(t, "an update and a delete", impl.OpsBytes(opsOf(updateOp("a", textOf("b")), deleteOp("a"))), "\x04\x06\x02a\x08\x03b\x00\x00\x08\x02a\x00")
	for what, l := range byName(rightOps()) {
		same(t, what, impl.OpsBytes(l), opsText(l))
	}
	for _, wrong := range []map[string][]impl.Op{wrongOps(), wrongBeside()} {
		for why, l := range wrong {
			same(t, why, impl.OpsBytes(l), "")
		}
	}
}

// opsOfSize are ops of just so many bytes.
func opsOfSize(size int) []impl.Op {
	var l []impl.Op
	for range impl.MaxOps {
		l = append(l, insertOp("long", repeated(textOf("aaaaaaaaaa"), impl.MaxValues)...))
	}
	lacks := size - len(opsText(l))
	for _, op := range l {
		lacks = lengthen(op.Row, lacks)
	}
	return l
}

// lengthen gives the texts among these values so many bytes more, and tells how many are left over.
func lengthen(row []impl.Value, lacks int) int {
	for i := range row {
		if row[i].Kind == impl.KindText {
			more := min(lacks, impl.MaxText-len(row[i].Text))
			row[i].Text += strings.Repeat("z", more)
			lacks -= more
		}
	}
	return lacks
}

func TestOpsComeBack(t *testing.T) {
	for what, l := range byName(rightOps()) {
		b := impl.OpsBytes(l)
		if len(b) > impl.MaxBytes {
			sameOps(t, what, impl.OpsRead(b), nil, impl.ErrSize)
			continue
		}
		sameOps(t, what, impl.OpsRead(b), l, impl.OK)
	}
	for _, size := range []int{impl.MaxBytes - 1, impl.MaxBytes, impl.MaxBytes + 1, impl.MaxBytes + 2, 2 * impl.MaxBytes} {
		l := opsOfSize(size)
		b := impl.OpsBytes(l)
		same(t, "size", len(b), size)
		same(t, "bytes", b, opsText(l))
		if size > impl.MaxBytes {
			sameOps(t, "too long", impl.OpsRead(b), nil, impl.ErrSize)
		} else {
			sameOps(t, "as long as may be", impl.OpsRead(b), l, impl.OK)
		}
	}
}

// wrongEnds are these bytes cut short at each place, and with more behind them.
func wrongEnds(b string) []string {
	var l []string
	for end := range len(b) {
		l = append(l, b[:end])
	}
	for _, more := range []string{"\x00", "\x02", "\x80", "\xff", b} {
		l = append(l, b+more)
	}
	return append(l, b+strings.Repeat("\x00", impl.MaxBytes-len(b)))
}

func TestOpsReadWrong(t *testing.T) {
	for why, l := range wrongOps() {
		b := opsText(l)
		if len(b) > impl.MaxBytes {
			t.Errorf("%s: %d bytes are too many for this test", why, len(b))
		}
		sameOps(t, why, impl.OpsRead(b), nil, impl.ErrSyntax)
	}
	wrong := wrongEnds(opsText(rightOps()["one of each"]))
	wrong = append(wrong,
		"", "\x00", "\x01", "\x02", "\xff", "a",
		"\x82\x00\x04\x02a\x00", "\x02\x84\x00\x02a\x00", "\x02\x04\x82\x00a\x00", "\x02\x04\x02a\x80\x00",
		"\x02\x02\x00", "\x02\x02\x94\x00\x02a\x02\x02a\x02\x00\x02\x00\x00", "\x02\x02\x12\x02a\x02\x02a\x02\x00\x02\x00\x00", "\x02\x02\x16\x02a\x02\x02a\x02\x00\x02\x00\x00\x00",
		"\x02\x04\x02a\x04\x01\x02", "\x02\x04\x02a\x02\x04", "\x02\x04\x02a\x02\x03", "\x02\x04\x02a\x01", "\x02\x04\x01a\x00",
		"\x02\x03\x02a\x00", "\x02\x00\x02a\x00", "\x02\x0a\x02a\x00", "\x02\x01\x02a\x00", "\x01\x04\x02a\x00", "\x04\x04\x02a\x00",
		impl.PutNum(impl.MaxOps+1), impl.PutNum(1<<62), impl.PutNum(math.MaxInt64), impl.PutNum(math.MinInt64), impl.PutNum(-1), "\x02"+impl.PutNum(math.MaxInt64)+"\x02a\x00",
		"\x02\x04"+impl.PutNum(math.MaxInt64)+"a\x00", "\x02\x04\x02a"+impl.PutNum(math.MaxInt64), "\x02\x04\x02a"+impl.PutNum(impl.MaxBytes+1), strings.Repeat("\xff", 11),
		strings.Repeat("\x00", impl.MaxBytes), strings.Repeat("\x02", impl.MaxBytes), strings.Repeat("\xff", impl.MaxBytes),
	)
	for _, b := range wrong {
		sameOps(t, brief(b), impl.OpsRead(b), nil, impl.ErrSyntax)
	}
	sameOps(t, "the least", impl.OpsRead("\x02\x04\x02a\x00"), opsOf(insertOp("a")), impl.OK)
	for _, b := range []string{"\x00", "\x02", "\xff", opsText(rightOps()["one of each"])} {
		sameOps(t, "too long", impl.OpsRead(strings.Repeat(b, tooLong)), nil, impl.ErrSize)
	}
	right := opsText(rightOps()["one of each"])
	sameOps(t, "too long by a byte", impl.OpsRead(right+strings.Repeat("\x00", tooLong-len(right))), nil, impl.ErrSize)
}

// turnBytes lets other bytes stand at one or two places.
func turnBytes(r *rand.Rand, text string) string {
	few := []byte{0, 1, 2, 3, 4, 6, 8, 10, 20, 22, 128, 255, 'a', 'b'}
	b := []byte(text)
	for range 1 + r.Intn(2) {
		b[r.Intn(len(b))] = few[r.Intn(len(few))]
	}
	return string(b)
}

// With bytes turned, what is read is right, and has just these bytes.
func TestOpsReadAnyBytes(t *testing.T) {
	r := rand.New(rand.NewSource(24))
	var texts []string
	for _, l := range byName(rightOps()) {
		if b := opsText(l); len(b) < 300 {
			texts = append(texts, b)
		}
	}
	read := 0
	for range 60000 {
		b := turnBytes(r, texts[r.Intn(len(texts))])
		out := impl.OpsRead(b)
		if out.Code != impl.OK {
			sameOps(t, brief(b), out, nil, impl.ErrSyntax)
			continue
		}
		read++
		same(t, "right", impl.OpsRight(out.Ops), true)
		same(t, "right, plainly", plainOpsRight(out.Ops), true)
		same(t, "its bytes", impl.OpsBytes(out.Ops), b)
		same(t, "its bytes, plainly", opsText(out.Ops), b)
	}
	if read < 1000 {
		t.Errorf("only %d texts were read: the test looks at too little", read)
	}
}

// Promise 10, databases.

func TestDbBytes(t *testing.T) {
	same(t, "none", impl.DbBytes(impl.Db{}), "\x00")
	a := "\x14\x02a\x02\x02a\x02\x00\x02\x00\x00"
	same(t, "no rows", impl.DbBytes(dbOf(tableOf(least()))), "\x02"+a+"\x00")
	same(t, "rows", impl.DbBytes(dbOf(tableOf(least(), valuesOf(boolOf(0)), valuesOf(boolOf(1))))), "\x02"+a+"\x04\x04\x01\x00\x04\x01\x01")
	b := strings.Replace(a, "a", "b", 1)
	same(t, "two", impl.DbBytes(dbOf(tableOf(least()), tableOf(named(least(), "b"), valuesOf(boolOf(1))))), "\x04"+a+"\x00"+b+"\x02\x04\x01\x01")
	for what, d := range byName(rightDbs()) {
		same(t, what, impl.DbBytes(d), dbText(d))
	}
	for why, d := range wrongDbs() {
		same(t, why, impl.DbBytes(d), "")
	}
}

// dbOfSize is a database of just so many bytes.
func dbOfSize(size int) impl.Db { return dbOfRows(impl.MaxRows, size) }

// longSchema is that of a table whose rows may be as long as any.
func longSchema() impl.Schema {
	s := impl.Schema{Name: "long", Columns: []impl.Column{{Name: "id", Kind: impl.KindInt}}, Key: []int64{0}}
	for i := 1; i < impl.MaxColumns; i++ {
		s.Columns = append(s.Columns, impl.Column{Name: longName(i), Kind: impl.KindText})
	}
	return s
}

// longRow is a row of that schema, whose texts have room for more.
func longRow(id int64) []impl.Value {
	return append(valuesOf(intOf(id)), repeated(textOf("aaaaaaaaaa"), impl.MaxColumns-1)...)
}

// dbOfRows is a database of just so many bytes, with so many long rows.
func dbOfRows(rows int, size int) impl.Db {
	x := impl.Table{Schema: longSchema()}
	for i := range rows {
		x.Rows = append(x.Rows, longRow(int64(i)))
	}
	d := dbOf(tableOf(pets(), pet(1, "ada")))
	d.Tables = slices.Insert(d.Tables, 0, x)
	lacks := size - len(dbText(d))
	for _, row := range x.Rows {
		lacks = lengthen(row, lacks)
	}
	return d
}

func TestDbsComeBack(t *testing.T) {
	back, long := 0, 0
	for what, d := range byName(rightDbs()) {
		b := impl.DbBytes(d)
		if len(b) > impl.MaxBytes {
			long++
			sameDb(t, what, impl.DbRead(b), impl.DbOut{Code: impl.ErrSize})
			continue
		}
		back++
		sameDb(t, what, impl.DbRead(b), impl.DbOut{Db: d})
	}
	if back < 40 || long < 1 {
		t.Errorf("%d databases came back, %d were too long: the test looks at too little", back, long)
	}
	for _, size := range []int{impl.MaxBytes - 1, impl.MaxBytes, impl.MaxBytes + 1, impl.MaxBytes + 2, 4 * impl.MaxBytes} {
		d := dbOfSize(size)
		b := impl.DbBytes(d)
		same(t, "size", len(b), size)
		same(t, "bytes", b, dbText(d))
		if size > impl.MaxBytes {
			sameDb(t, "too long", impl.DbRead(b), impl.DbOut{Code: impl.ErrSize})
		} else {
			sameDb(t, "as long as may be", impl.DbRead(b), impl.DbOut{Db: d})
		}
	}
}

// seenInBytes is a database whose values have just what stands in their bytes.
func seenInBytes(d impl.Db) impl.Db {
	seen := cloneDb(d)
	for _, x := range seen.Tables {
		for _, row := range x.Rows {
			for i, v := range row {
				switch v.Kind {
				case impl.KindBool:
					row[i] = boolOf(int64(byte(v.Num)))
				case impl.KindInt:
					row[i] = intOf(v.Num)
				case impl.KindText:
					row[i] = textOf(v.Text)
				default:
					row[i] = impl.Value{Kind: int64(byte(v.Kind)) << 32}
				}
			}
		}
	}
	return seen
}

func TestDbReadWrong(t *testing.T) {
	for why, d := range wrongDbs() {
		b, seen := dbText(d), seenInBytes(d)
		want := impl.DbOut{Code: impl.ErrSyntax}
		switch {
		case len(b) > impl.MaxBytes:
			want.Code = impl.ErrSize
		case plainDbRight(seen):
			want = impl.DbOut{Db: seen}
		}
		sameDb(t, why, impl.DbRead(b), want)
	}
	a := "\x14\x02a\x02\x02a\x02\x00\x02\x00\x00"
	wrong := append(wrongEnds(dbText(petShop())),
		"", "\x01", "\x02", "\xff", "a", "\x80\x00", "\x02\x00\x00", "\x02"+a, "\x01"+a+"\x00", "\x04"+a+"\x00",
		"\x82\x00"+a+"\x00", "\x02\x94\x00"+a[1:]+"\x00", "\x02"+a+"\x80\x00", "\x02"+a+"\x02\x84\x00\x01\x00", "\x02"+a+"\x02\x04\x01\x02", "\x02"+a+"\x02\x00", "\x02"+a+"\x02\x02\x00",
		"\x02"+a+"\x01", "\x02"+a+"\x01\x04\x01\x00", "\x02"+a+"\x04\x04\x01\x01\x04\x01\x00", "\x02"+a+"\x04\x04\x01\x01\x04\x01\x01", "\x02"+a+"\x02\x04\x02\x01",
		"\x02"+a+impl.PutNum(impl.MaxRows+1), "\x02"+a+impl.PutNum(math.MaxInt64), "\x02"+a+"\x02"+impl.PutNum(math.MaxInt64), "\x02"+impl.PutNum(math.MaxInt64),
		impl.PutNum(impl.MaxTables+1), impl.PutNum(1<<62), "\x02"+a+impl.PutNum(1<<62), impl.PutNum(math.MaxInt64), impl.PutNum(math.MinInt64), "\x04"+a+"\x00"+a+"\x00", strings.Repeat("\xff", 11),
		strings.Repeat("\x02", impl.MaxBytes), strings.Repeat("\x00", impl.MaxBytes), strings.Repeat("\xff", impl.MaxBytes),
	)
	for _, b := range wrong {
		sameDb(t, brief(b), impl.DbRead(b), impl.DbOut{Code: impl.ErrSyntax})
	}
	sameDb(t, "nothing in it", impl.DbRead("\x00"), impl.DbOut{})
	for _, b := range []string{"\x00", "\x02", "\xff", dbText(petShop())} {
		sameDb(t, "too long", impl.DbRead(strings.Repeat(b, tooLong)), impl.DbOut{Code: impl.ErrSize})
	}
	right := dbText(petShop())
	sameDb(t, "too long by a byte", impl.DbRead(right+strings.Repeat("\x00", tooLong-len(right))), impl.DbOut{Code: impl.ErrSize})
}

func TestDbReadAnyBytes(t *testing.T) {
	r := rand.New(rand.NewSource(25))
	var texts []string
	for _, d := range byName(rightDbs()) {
		if b := dbText(d); len(b) < 400 {
			texts = append(texts, b)
		}
	}
	read := 0
	for range 60000 {
		b := turnBytes(r, texts[r.Intn(len(texts))])
		out := impl.DbRead(b)
		if out.Code != impl.OK {
			sameDb(t, brief(b), out, impl.DbOut{Code: impl.ErrSyntax})
			continue
		}
		read++
		same(t, "at", out.At, 0)
		same(t, "right, plainly", plainDbRight(out.Db), true)
		same(t, "its bytes", impl.DbBytes(out.Db), b)
		same(t, "its bytes, plainly", dbText(out.Db), b)
	}
	if read < 1000 {
		t.Errorf("only %d texts were read: the test looks at too little", read)
	}
}

// What is handed in stays as it is, and an answer has memory of its own.
func TestDbsAreNotChanged(t *testing.T) {
	d := cloneDb(petShop())
	// There is room behind the tables, and their rows: nothing may come to stand in it.
	d.Tables = slices.Grow(d.Tables, 4)
	for i := range d.Tables {
		d.Tables[i].Rows = slices.Grow(d.Tables[i].Rows, 4)
	}
	l := opsOf(createOp(named(turned(), "a")), insertOp("a", intOf(1), textOf("a"), null(), null()), createOp(named(pets(), "zz")), updateOp("pets", pet(1, "new")...), deleteOp("cats", intOf(1)))
	bad := append(slices.Clone(l), insertOp("no", intOf(1)))
	tell := func() string {
		return tellDb(d) + tellOps(l) + tellOps(bad) + tellDb(dbOf(d.Tables[:len(d.Tables)+1]...)) + tellRows(d.Tables[1].Rows[:3])
	}
	was := tell()
	given := append(spansOfDb(d, "database"), spansOfOps(l, "handed in")...)
	lists := map[string][]span{
		"tx":    spansOfDb(impl.DbTx(d, l).Db, "answer"),
		"table": spansOfTable(impl.DbTable(d, "pets"), "answer"),
		"ops":   spansOfOps(impl.OpsRead(impl.OpsBytes(l)).Ops, "answer"),
		"db":    spansOfDb(impl.DbRead(impl.DbBytes(d)).Db, "answer"),
	}
	same(t, "refused", impl.DbTx(d, bad).At, 5)
	impl.DbRight(d)
	impl.OpsRight(l)
	same(t, "what was handed in", tell(), was)
	for what, spans := range lists {
		spansApart(t, what, slices.Concat(given, spans))
	}
}

// Lists that share memory as they are handed in don't in the answer.
func TestDbListsApart(t *testing.T) {
	s := pets()
	all := []int64{0, 1, 2}
	s.Key, s.Indexes = all[:1], []impl.Index{{Columns: all[:2]}, {Columns: all}}
	other := s
	other.Name = "quiet"
	row := pet(1, "x")
	d := dbOf(impl.Table{Schema: s, Rows: [][]impl.Value{row}}, impl.Table{Schema: other, Rows: [][]impl.Value{row}})
	third, fourth := s, s
	third.Name, fourth.Name = "a", "z"
	l := opsOf(createOp(third), createOp(fourth), insertOp("a", row...), insertOp("z", row...))
	out := impl.DbTx(d, l)
	sameDb(t, "done", out, plainTx(d, l))
	spansApart(t, "done", spansOfDb(out.Db, "answer"))
	spansApart(t, "one alone", spansOfTable(impl.DbTable(d, "quiet"), "answer"))
	twice := opsOf(createOp(third), createOp(third), insertOp("a", row...), deleteOp("a", row...))
	spansApart(t, "ops", spansOfOps(impl.OpsRead(impl.OpsBytes(twice)).Ops, "answer"))
	spansApart(t, "database", spansOfDb(impl.DbRead(impl.DbBytes(d)).Db, "answer"))
}

// What is done with an answer later leaves the database that it came of as it was.
func TestDbAnswersStay(t *testing.T) {
	r := rand.New(rand.NewSource(26))
	dbs, texts := []impl.Db{{}}, []string{tellDb(impl.Db{})}
	for range 150 {
		d := dbs[max(0, len(dbs)-1-r.Intn(3))]
		if out := impl.DbTx(d, drawOps(r, d, 1+r.Intn(4))); out.Code == impl.OK {
			dbs, texts = append(dbs, out.Db), append(texts, tellDb(out.Db))
		}
	}
	if len(dbs) < 50 {
		t.Errorf("only %d transactions were taken: the test looks at too little", len(dbs))
	}
	for i := range dbs {
		same(t, "database "+strconv.Itoa(i), tellDb(dbs[i]), texts[i])
		same(t, "right "+strconv.Itoa(i), impl.DbRight(dbs[i]), true)
	}
}
