package tests

import (
	"fmt"
	"maps"
	"math"
	"math/big"
	"math/rand"
	"slices"
	"strconv"
	"strings"
	"testing"

	"loop.example/g00271/impl"
)

// owners is a schema whose key is a text, with indexes that are not unique.
func owners() impl.Schema {
	return impl.Schema{
		Name:    "owners",
		Columns: []impl.Column{{Name: "name", Kind: impl.KindText}, {Name: "pet", Kind: impl.KindInt, Nullable: true}, {Name: "city", Kind: impl.KindText, Nullable: true}, {Name: "good", Kind: impl.KindBool, Nullable: true}},
		Key:     []int64{0},
		Indexes: []impl.Index{{Columns: []int64{2, 0}}, {Columns: []int64{1, 2}}, {Columns: []int64{3}}},
	}
}

// rowsOf reads rows as they are written in these tests: with | between, their values as in a query.
func rowsOf(text string) [][]impl.Value {
	var rows [][]impl.Value
	for row := range strings.SplitSeq(text, "|") {
		var l []impl.Value
		for _, word := range strings.Fields(row) {
			l = append(l, plainValue(word))
		}
		if len(l) > 0 {
			rows = append(rows, l)
		}
	}
	return rows
}

// zoo is an ordinary database to ask.
func zoo() impl.Db {
	return dbOf(
		tableOf(named(pets(), "none")),
		tableOf(owners(), rowsOf("'ann' 3 'bern' true | 'eve' 1 null false | 'ian' null 'bern' null | 'joe' 3 'rome' true | 'liz' 9 'bern' false | 'sue' 2 'rome' null")...),
		tableOf(pets(), rowsOf("1 'rex' 7 | 2 'ada' null | 3 'max' 3 | 4 'tom' 7 | 5 'kit' null | 6 'bob' -1")...),
	)
}

// queryOf reads a query that is right.
func queryOf(t *testing.T, text string) impl.Query {
	t.Helper()
	out := impl.QueryRead(text)
	if out.Code != impl.OK {
		t.Fatalf("%s: the test's query has the code %d, At %d", text, out.Code, out.At)
	}
	return out.Query
}

func answered(rows [][]impl.Value) impl.AnswerOut { return impl.AnswerOut{Rows: rows} }

func unanswered(code int64) impl.AnswerOut { return impl.AnswerOut{Code: code} }

func sameAnswer(t *testing.T, what string, got impl.AnswerOut, want impl.AnswerOut) {
	t.Helper()
	if got.Code != want.Code || tellRows(got.Rows) != tellRows(want.Rows) {
		t.Errorf("%.400s: got %.600s with code %d, want %.600s with code %d", what, tellRows(got.Rows), got.Code, tellRows(want.Rows), want.Code)
	}
}

// Plain functions, which answer in another way than the program: a row has its values by the columns' names, and values are in the order of their bytes.

type plainRow map[string]impl.Value

// plainOrder is how a stands to b: "<", "=" or ">".
func plainOrder(a impl.Value, b impl.Value) string {
	return []string{"<", "=", ">"}[1+strings.Compare(bytesOf(valuesOf(a)), bytesOf(valuesOf(b)))]
}

func plainTruth(v impl.Value, op string, w impl.Value) bool {
	stands := plainOrder(v, w)
	switch {
	case op == "is":
		return v == null()
	case v == null() || w == null() || v.Kind != w.Kind:
		return false
	case op == "!=":
		return stands != "="
	}
	return strings.Contains(op, stands)
}

// plainTable tells the tables of that name: one, or none.
func plainTable(d impl.Db, name string) []impl.Table {
	return slices.DeleteFunc(slices.Clone(d.Tables), func(t impl.Table) bool { return t.Schema.Name != name })
}

// plainKinds tells the kinds of a query's columns by their names.
func plainKinds(d impl.Db, q impl.Query) map[string]int64 {
	kinds := map[string]int64{}
	for _, x := range append(plainTable(d, q.Table), plainTable(d, q.Join)...) {
		for _, c := range x.Schema.Columns {
			kinds[x.Schema.Name+"."+c.Name] = c.Kind
		}
	}
	return kinds
}

func plainCheck(d impl.Db, q impl.Query) int64 {
	if !plainDbRight(d) || !plainQueryRight(q) {
		return impl.ErrForm
	}
	if len(plainTable(d, q.Table)) == 0 || q.Join != "" && len(plainTable(d, q.Join)) == 0 {
		return impl.ErrNone
	}
	kinds := plainKinds(d, q)
	unlike := kinds[q.Left] != kinds[q.Right]
	names := []string{q.Left, q.Right, q.Group, q.Order}
	for _, item := range q.Items {
		names = append(names, item.Column)
		unlike = unlike || item.Agg == impl.AggSum && kinds[item.Column] != impl.KindInt
	}
	for _, term := range q.Where {
		names = append(names, term.Column)
		unlike = unlike || term.Op != "is" && kinds[term.Column] != term.Value.Kind
	}
	for _, name := range names {
		if name != "" && kinds[name] == 0 {
			return impl.ErrNone
		}
	}
	if unlike {
		return impl.ErrType
	}
	return impl.OK
}

func plainRowsOf(t impl.Table) []plainRow {
	var rows []plainRow
	for _, values := range t.Rows {
		row := plainRow{}
		for i, c := range t.Schema.Columns {
			row[t.Schema.Name+"."+c.Name] = values[i]
		}
		rows = append(rows, row)
	}
	return rows
}

// plainTrue tells the rows of a query that are true.
func plainTrue(d impl.Db, q impl.Query) []plainRow {
	rows := plainRowsOf(plainTable(d, q.Table)[0])
	if q.Join != "" {
		var both []plainRow
		for _, row := range rows {
			for _, other := range plainRowsOf(plainTable(d, q.Join)[0]) {
				maps.Copy(other, row)
				both = append(both, other)
			}
		}
		rows = slices.DeleteFunc(both, func(row plainRow) bool { return !plainTruth(row[q.Left], "=", row[q.Right]) })
	}
	for _, term := range q.Where {
		rows = slices.DeleteFunc(rows, func(row plainRow) bool { return !plainTruth(row[term.Column], term.Op, term.Value) })
	}
	return rows
}

// plainParts cuts rows into parts of like values in a column, these rising or falling, each part's rows in their order.
func plainParts(rows []plainRow, column string, down bool) [][]plainRow {
	parts := map[string][]plainRow{}
	for _, row := range rows {
		key := bytesOf(valuesOf(row[column]))
		parts[key] = append(parts[key], row)
	}
	var l [][]plainRow
	for _, key := range slices.Sorted(maps.Keys(parts)) {
		l = append(l, parts[key])
	}
	if down {
		slices.Reverse(l)
	}
	return l
}

func cutTo[T any](l []T, limit int64) []T {
	if limit < 0 {
		return l
	}
	return l[:min(int64(len(l)), limit)]
}

func plainAnswer(d impl.Db, q impl.Query) impl.AnswerOut {
	if code := plainCheck(d, q); code != impl.OK {
		return unanswered(code)
	}
	rows := plainTrue(d, q)
	if q.Group != "" || slices.ContainsFunc(q.Items, func(item impl.Item) bool { return item.Agg != impl.AggNone }) {
		return plainGrouped(rows, q)
	}
	if q.Order != "" {
		rows = slices.Concat(plainParts(rows, q.Order, q.Down)...)
	}
	var told [][]impl.Value
	for _, row := range cutTo(rows, q.Limit) {
		var l []impl.Value
		for _, item := range q.Items {
			l = append(l, row[item.Column])
		}
		told = append(told, l)
	}
	return answered(told)
}

func plainGrouped(rows []plainRow, q impl.Query) impl.AnswerOut {
	groups := [][]plainRow{rows}
	if q.Group != "" {
		groups = plainParts(rows, q.Group, q.Down)
	}
	var told [][]impl.Value
	for _, group := range cutTo(groups, q.Limit) {
		var l []impl.Value
		for _, item := range q.Items {
			v, over := plainAgg(group, item)
			if over {
				return unanswered(impl.ErrOver)
			}
			l = append(l, v)
		}
		told = append(told, l)
	}
	return answered(told)
}

// plainAgg tells an item of a group, and whether a sum leaves int64.
func plainAgg(rows []plainRow, item impl.Item) (impl.Value, bool) {
	var values []impl.Value
	for _, row := range rows {
		if v := row[item.Column]; v != null() {
			values = append(values, v)
		}
	}
	switch {
	case item.Agg == impl.AggCount:
		return intOf(int64(len(rows))), false
	case item.Agg == impl.AggNone:
		return rows[0][item.Column], false
	case len(values) == 0:
		return null(), false
	case item.Agg == impl.AggSum:
		all, over := new(big.Int), false
		for _, v := range values {
			all.Add(all, big.NewInt(v.Num))
			over = over || !all.IsInt64()
		}
		return intOf(all.Int64()), over
	}
	best := values[0]
	for _, v := range values {
		if plainOrder(v, best) == map[int64]string{impl.AggMin: "<", impl.AggMax: ">"}[item.Agg] {
			best = v
		}
	}
	return best, false
}

func plainByIndex(d impl.Db, q impl.Query) impl.AnswerOut {
	if code := plainCheck(d, q); code != impl.OK {
		return unanswered(code)
	}
	s, found := plainTable(d, q.Table)[0].Schema, false
	for _, x := range s.Indexes {
		column := s.Name + "." + s.Columns[x.Columns[0]].Name
		found = found || slices.ContainsFunc(q.Where, func(term impl.Term) bool { return term.Op == "=" && term.Column == column })
	}
	if q.Join != "" || !found {
		return unanswered(impl.ErrState)
	}
	return plainAnswer(d, q)
}

// answersAsPlain holds all that is told of a query against the plain functions, and tells the code of the one and the other way.
func answersAsPlain(t *testing.T, what string, d impl.Db, q impl.Query) (run int64, byIndex int64) {
	t.Helper()
	asRun, asFound := plainAnswer(d, q), plainByIndex(d, q)
	same(t, what+": checked", impl.QueryCheck(d, q), plainCheck(d, q))
	sameAnswer(t, what+": run", impl.QueryRun(d, q), asRun)
	sameAnswer(t, what+": by index", impl.QueryByIndex(d, q), asFound)
	return asRun.Code, asFound.Code
}

// What is told.

// toldByZoo are queries of the zoo, and the rows that they tell.
func toldByZoo() map[string]string {
	told := map[string]string{
		"select pets.id , pets.name , pets.age from pets": "1 'rex' 7 | 2 'ada' null | 3 'max' 3 | 4 'tom' 7 | 5 'kit' null | 6 'bob' -1",
		"select pets.age , pets.id , pets.age from pets":  "7 1 7 | null 2 null | 3 3 3 | 7 4 7 | null 5 null | -1 6 -1",
		"select owners.good , owners.city from owners":    "true 'bern' | false null | null 'bern' | true 'rome' | false 'bern' | null 'rome'",
		"select none.id from none":                        "",
		"select none.id from none order by none.name":     "",
	}
	maps.Copy(told, toldWhere())
	maps.Copy(told, toldInOrder())
	maps.Copy(told, toldOfJoins())
	maps.Copy(told, toldOfGroups())
	return told
}

// toldWhere are queries by their terms, and the ids that they tell.
func toldWhere() map[string]string {
	told := map[string]string{}
	for where, ids := range map[string]string{
		"pets.age = 7":                        "1 | 4",
		"pets.age != 7":                       "3 | 6",
		"pets.age < 7":                        "3 | 6",
		"pets.age <= 7":                       "1 | 3 | 4 | 6",
		"pets.age > 3":                        "1 | 4",
		"pets.age >= 3":                       "1 | 3 | 4",
		"pets.age is null":                    "2 | 5",
		"pets.id is null":                     "",
		"pets.name = 'max'":                   "3",
		"pets.name != 'max'":                  "1 | 2 | 4 | 5 | 6",
		"pets.name < 'max'":                   "2 | 5 | 6",
		"pets.name <= 'max'":                  "2 | 3 | 5 | 6",
		"pets.name > 'max'":                   "1 | 4",
		"pets.name >= 'max'":                  "1 | 3 | 4",
		"pets.name >= ''":                     "1 | 2 | 3 | 4 | 5 | 6",
		"pets.name < 'm'":                     "2 | 5 | 6",
		"pets.name > 'maxx'":                  "1 | 4",
		"pets.age >= -1 and pets.age < 7":     "3 | 6",
		"pets.age = 7 and pets.name = 'tom'":  "4",
		"pets.name = 'tom' and pets.age = 7":  "4",
		"pets.age = 7 and pets.age = 3":       "",
		"pets.age is null and pets.age = 7":   "",
		"pets.age is null and pets.id > 2":    "5",
		"pets.age = 7 and pets.age = 7":       "1 | 4",
		"pets.id = 8":                         "",
		"pets.id > -999999999999999999":       "1 | 2 | 3 | 4 | 5 | 6",
		"pets.id < 999999999999999999":        "1 | 2 | 3 | 4 | 5 | 6",
		"pets.id >= 2 and pets.name != 'tom'": "2 | 3 | 5 | 6",
	} {
		told["select pets.id from pets where "+where] = ids
	}
	for where, names := range map[string]string{
		"owners.good = true":                         "'ann' | 'joe'",
		"owners.good = false":                        "'eve' | 'liz'",
		"owners.good != true":                        "'eve' | 'liz'",
		"owners.good < true":                         "'eve' | 'liz'",
		"owners.good <= true":                        "'ann' | 'eve' | 'joe' | 'liz'",
		"owners.good > false":                        "'ann' | 'joe'",
		"owners.good is null":                        "'ian' | 'sue'",
		"owners.city = 'bern' and owners.pet > 3":    "'liz'",
		"owners.city is null":                        "'eve'",
		"owners.city is null and owners.pet is null": "",
		"owners.pet != 3":                            "'eve' | 'liz' | 'sue'",
	} {
		told["select owners.name from owners where "+where] = names
	}
	return told
}

func toldInOrder() map[string]string {
	told := map[string]string{}
	for behind, ids := range map[string]string{
		"order by pets.age":                                  "2 | 5 | 6 | 3 | 1 | 4",
		"order by pets.age desc":                             "1 | 4 | 3 | 6 | 2 | 5",
		"order by pets.name":                                 "2 | 6 | 5 | 3 | 1 | 4",
		"order by pets.name desc":                            "4 | 1 | 3 | 5 | 6 | 2",
		"order by pets.id":                                   "1 | 2 | 3 | 4 | 5 | 6",
		"order by pets.id desc":                              "6 | 5 | 4 | 3 | 2 | 1",
		"order by pets.age limit 3":                          "2 | 5 | 6",
		"order by pets.age desc limit 1":                     "1",
		"where pets.age >= 3 order by pets.age":              "3 | 1 | 4",
		"where pets.age >= 3 order by pets.age desc limit 2": "1 | 4",
		"where pets.age = 7 order by pets.name":              "1 | 4",
		"where pets.age = 7 order by pets.name desc":         "4 | 1",
		"where pets.age is null order by pets.age desc":      "2 | 5",
		"limit 0":                        "",
		"limit 1":                        "1",
		"limit 5":                        "1 | 2 | 3 | 4 | 5",
		"limit 6":                        "1 | 2 | 3 | 4 | 5 | 6",
		"limit 7":                        "1 | 2 | 3 | 4 | 5 | 6",
		"limit 1000":                     "1 | 2 | 3 | 4 | 5 | 6",
		"where pets.id > 2 limit 2":      "3 | 4",
		"order by pets.age desc limit 0": "",
	} {
		told["select pets.id from pets "+behind] = ids
	}
	told["select owners.name from owners order by owners.good"] = "'ian' | 'sue' | 'eve' | 'liz' | 'ann' | 'joe'"
	told["select owners.name from owners order by owners.good desc"] = "'ann' | 'joe' | 'eve' | 'liz' | 'ian' | 'sue'"
	return told
}

func toldOfJoins() map[string]string {
	return map[string]string{
		"select pets.id , owners.name from pets join owners on pets.id = owners.pet":                                                  "1 'eve' | 2 'sue' | 3 'ann' | 3 'joe'",
		"select pets.id , owners.name from pets join owners on owners.pet = pets.id":                                                  "1 'eve' | 2 'sue' | 3 'ann' | 3 'joe'",
		"select pets.id , owners.name from owners join pets on pets.id = owners.pet":                                                  "3 'ann' | 1 'eve' | 3 'joe' | 2 'sue'",
		"select pets.name , owners.name from pets join owners on pets.age = owners.pet":                                               "'max' 'ann' | 'max' 'joe'",
		"select pets.name , owners.name from pets join owners on pets.name = owners.name":                                             "",
		"select pets.id , owners.name from pets join owners on pets.id = pets.age":                                                    "3 'ann' | 3 'eve' | 3 'ian' | 3 'joe' | 3 'liz' | 3 'sue'",
		"select pets.id , owners.name from pets join owners on owners.pet = owners.pet where pets.id = 1":                             "1 'ann' | 1 'eve' | 1 'joe' | 1 'liz' | 1 'sue'",
		"select pets.id , owners.name from owners join pets on pets.age = pets.age where owners.name = 'ian'":                         "1 'ian' | 3 'ian' | 4 'ian' | 6 'ian'",
		"select owners.name , owners.pet from pets join owners on pets.id = owners.pet":                                               "'eve' 1 | 'sue' 2 | 'ann' 3 | 'joe' 3",
		"select pets.id , owners.name from pets join owners on pets.id = owners.pet order by owners.city":                             "1 'eve' | 3 'ann' | 2 'sue' | 3 'joe'",
		"select pets.id , owners.name from pets join owners on pets.id = owners.pet order by owners.city desc":                        "2 'sue' | 3 'joe' | 3 'ann' | 1 'eve'",
		"select pets.id , owners.name from pets join owners on pets.id = owners.pet order by pets.id desc":                            "3 'ann' | 3 'joe' | 2 'sue' | 1 'eve'",
		"select pets.id , owners.name from pets join owners on pets.id = owners.pet where owners.city = 'rome'":                       "2 'sue' | 3 'joe'",
		"select owners.name from pets join owners on pets.id = owners.pet where owners.city = 'rome' and pets.age = 3":                "'joe'",
		"select owners.name from pets join owners on pets.id = owners.pet where pets.age is null":                                     "'sue'",
		"select owners.name from pets join owners on pets.id = owners.pet order by owners.name limit 2":                               "'ann' | 'eve'",
		"select pets.id , owners.name from pets join owners on pets.id = owners.pet limit 3":                                          "1 'eve' | 2 'sue' | 3 'ann'",
		"select none.id from none join pets on none.id = pets.id":                                                                     "",
		"select none.id from pets join none on none.id = pets.id":                                                                     "",
		"select none.id , pets.id from pets join none on pets.id = pets.id":                                                           "",
		"select count from pets join owners on pets.id = owners.pet":                                                                  "4",
		"select count , sum pets.age , min pets.name from pets join none on pets.id = pets.id group by none.id":                       "",
		"select owners.city , count , sum pets.age from pets join owners on pets.id = owners.pet group by owners.city":                "null 1 7 | 'bern' 1 3 | 'rome' 2 3",
		"select sum pets.age , max owners.name from pets join owners on pets.id = owners.pet where owners.good = true":                "6 'joe'",
		"select pets.name , min owners.name , count from pets join owners on pets.id = owners.pet group by pets.name":                 "'ada' 'sue' 1 | 'max' 'ann' 2 | 'rex' 'eve' 1",
		"select pets.name , count from owners join pets on pets.id = owners.pet group by pets.name order by pets.name desc limit 2":   "'rex' 1 | 'max' 2",
		"select count , min pets.age , max pets.age , sum pets.age from pets join owners on pets.id = owners.pet where pets.id > 100": "0 null null null",
	}
}

func toldOfGroups() map[string]string {
	told := map[string]string{
		"select count from none":                                                                                           "0",
		"select sum none.id from none":                                                                                     "null",
		"select min none.name , max none.age , count from none":                                                            "null null 0",
		"select count from none group by none.id":                                                                          "",
		"select none.id from none group by none.id":                                                                        "",
		"select count from none limit 0":                                                                                   "",
		"select min owners.good , max owners.good from owners":                                                             "false true",
		"select min owners.city , max owners.city from owners":                                                             "'bern' 'rome'",
		"select min owners.good from owners where owners.good = true":                                                      "true",
		"select max owners.good from owners where owners.good is null":                                                     "null",
		"select owners.good , count from owners group by owners.good":                                                      "null 2 | false 2 | true 2",
		"select owners.city , count , sum owners.pet , min owners.name , max owners.good from owners group by owners.city": "null 1 1 'eve' false | 'bern' 3 12 'ann' true | 'rome' 2 5 'joe' true",
	}
	for from, rows := range map[string]string{
		"count , sum pets.age , min pets.age , max pets.age , min pets.name , max pets.name from pets": "6 16 -1 7 'ada' 'tom'",
		"count , count from pets": "6 6",
		"sum pets.age , count , min pets.age , max pets.age from pets where pets.age is null":    "null 2 null null",
		"count , sum pets.id , min pets.name from pets where pets.id > 100":                      "0 null null",
		"count from pets where pets.age = 7":                                                     "2",
		"count from pets limit 0":                                                                "",
		"count from pets limit 1":                                                                "6",
		"pets.age from pets group by pets.age":                                                   "null | -1 | 3 | 7",
		"pets.age , pets.age from pets group by pets.age limit 2":                                "null null | -1 -1",
		"count from pets group by pets.age":                                                      "2 | 1 | 1 | 2",
		"pets.age , count from pets group by pets.age":                                           "null 2 | -1 1 | 3 1 | 7 2",
		"count , pets.age from pets group by pets.age order by pets.age":                         "2 null | 1 -1 | 1 3 | 2 7",
		"pets.age , count from pets group by pets.age order by pets.age desc":                    "7 2 | 3 1 | -1 1 | null 2",
		"pets.age , count from pets group by pets.age order by pets.age desc limit 3":            "7 2 | 3 1 | -1 1",
		"pets.age , count from pets group by pets.age limit 0":                                   "",
		"pets.age , count from pets group by pets.age limit 4":                                   "null 2 | -1 1 | 3 1 | 7 2",
		"pets.age , count from pets group by pets.age limit 5":                                   "null 2 | -1 1 | 3 1 | 7 2",
		"pets.age , sum pets.id , min pets.name , max pets.name from pets group by pets.age":     "null 7 'ada' 'kit' | -1 6 'bob' 'bob' | 3 3 'max' 'max' | 7 5 'rex' 'tom'",
		"pets.age , sum pets.age , min pets.age , max pets.age from pets group by pets.age":      "null null null null | -1 -1 -1 -1 | 3 3 3 3 | 7 14 7 7",
		"pets.age , count from pets where pets.id <= 3 group by pets.age":                        "null 1 | 3 1 | 7 1",
		"pets.age , count from pets where pets.age > 0 and pets.name != 'rex' group by pets.age": "3 1 | 7 1",
		"pets.name , max pets.id from pets group by pets.name":                                   "'ada' 2 | 'bob' 6 | 'kit' 5 | 'max' 3 | 'rex' 1 | 'tom' 4",
	} {
		told["select "+from] = rows
	}
	return told
}

func TestQueryRun(t *testing.T) {
	d := zoo()
	for text, rows := range byName(toldByZoo()) {
		q, want := queryOf(t, text), answered(rowsOf(rows))
		same(t, text, impl.QueryCheck(d, q), impl.OK)
		sameAnswer(t, text, impl.QueryRun(d, q), want)
		sameAnswer(t, text+": the plain answer", plainAnswer(d, q), want)
	}
}

// Terms are asked one by one: as many as there may be, each of which lets a row go by itself.
func TestQueryTerms(t *testing.T) {
	d := dbOf(manyPets(impl.MaxRows))
	q := plainQuery()
	for i := range impl.MaxTerms {
		q.Where = append(q.Where, termOf("pets.id", "!=", intOf(int64(10*i+10))))
	}
	for at := range impl.MaxTerms {
		left := changedQuery(q, func(q *impl.Query) { q.Where[at] = termOf("pets.id", "<", intOf(300)) })
		want := [][]impl.Value{valuesOf(intOf(int64(10*at + 10)))}
		for id := 210; id < 300; id += 10 {
			want = append(want, valuesOf(intOf(int64(id))))
		}
		sameAnswer(t, "without Term "+strconv.Itoa(at), impl.QueryRun(d, left), answered(want))
	}
}

// Truth.

func TestTruth(t *testing.T) {
	for _, v := range edgeValues() {
		for _, w := range edgeValues() {
			for _, op := range append(comparisons(), "is") {
				if got := impl.Truth(v, op, w); got != plainTruth(v, op, w) {
					t.Errorf("%s %s %s: got %v", brief(v), op, brief(w), got)
				}
			}
		}
	}
}

func TestTruthByHand(t *testing.T) {
	one, two := intOf(1), intOf(2)
	for text, want := range map[string]string{
		"1 1":           "= <= >=",
		"1 2":           "!= < <=",
		"2 1":           "!= > >=",
		"-1 1":          "!= < <=",
		"false true":    "!= < <=",
		"true true":     "= <= >=",
		"true false":    "!= > >=",
		"'' ''":         "= <= >=",
		"'' 'a'":        "!= < <=",
		"'ab' 'b'":      "!= < <=",
		"'b' 'ab'":      "!= > >=",
		"'10' '9'":      "!= < <=",
		"'-' '0'":       "!= < <=",
		"'_' 'a'":       "!= < <=",
		"null null":     "is",
		"null 1":        "is",
		"null 'a'":      "is",
		"null false":    "is",
		"1 null":        "",
		"0 null":        "",
		"'' null":       "",
		"false null":    "",
		"1 true":        "",
		"true 1":        "",
		"0 false":       "",
		"1 '1'":         "",
		"'1' 1":         "",
		"'true' true":   "",
		"false ''":      "",
		"-9 1000000000": "!= < <=",
	} {
		words := strings.Fields(text)
		var held []string
		for _, op := range []string{"=", "!=", "<", "<=", ">", ">=", "is"} {
			if impl.Truth(plainValue(words[0]), op, plainValue(words[1])) {
				held = append(held, op)
			}
		}
		same(t, text, sorted(held), sorted(strings.Fields(want)))
	}
	same(t, "the edges of int64", impl.Truth(intOf(math.MinInt64), "<", intOf(math.MaxInt64)), true)
	same(t, "no sign of the difference", impl.Truth(intOf(math.MaxInt64), "<", intOf(math.MinInt64)), false)
	same(t, "any bytes", impl.Truth(textOf("a\x00"), ">", textOf("a")) && impl.Truth(textOf("\xff"), ">", textOf("é")), true)
	same(t, "ordinary", impl.Truth(one, "<", two), true)
}

func sorted(l []string) string {
	return strings.Join(slices.Sorted(slices.Values(l)), " ")
}

// What is no right value, or no Op, is never true.
func TestTruthOfWrongThings(t *testing.T) {
	ops := append(comparisons(), "is")
	for _, wrong := range wrongValues() {
		for _, v := range append(edgeValues(), wrongValues()...) {
			for _, op := range ops {
				if impl.Truth(wrong, op, v) || impl.Truth(v, op, wrong) {
					t.Errorf("%s and %s are held against each other by %s", brief(wrong), brief(v), op)
				}
			}
		}
	}
	for _, op := range append(wrongOperators(), "is ", "IS", "≤", strings.Repeat("=", tooLong), strings.Repeat("is", tooLong)) {
		for _, pair := range [][]impl.Value{rowsOf("1 1")[0], rowsOf("1 2")[0], rowsOf("2 1")[0], rowsOf("null null")[0], rowsOf("'a' 'b'")[0], rowsOf("true false")[0]} {
			same(t, brief(op), impl.Truth(pair[0], op, pair[1]), false)
		}
	}
}

// What is refused.

// sameRefused looks at all that is told of a query that is refused.
func sameRefused(t *testing.T, what string, d impl.Db, q impl.Query, code int64) {
	t.Helper()
	same(t, what, impl.QueryCheck(d, q), code)
	sameAnswer(t, what+": run", impl.QueryRun(d, q), unanswered(code))
	sameAnswer(t, what+": by index", impl.QueryByIndex(d, q), unanswered(code))
	same(t, what+": the plain code", plainCheck(d, q), code)
}

// queriesOfZoo are right ones that each code may be told of.
func queriesOfZoo() map[string]impl.Query {
	join := joinQuery()
	join.Left, join.Right = "pets.id", "owners.pet"
	return map[string]impl.Query{
		"plain":       plainQuery(),
		"count":       countQuery(),
		"join":        join,
		"by index":    askQuery(termOf("pets.name", "=", textOf("rex"))),
		"no table":    changedQuery(plainQuery(), func(q *impl.Query) { q.Table = "dogs" }),
		"no column":   askQuery(termOf("pets.owner", "=", intOf(1))),
		"no sum":      changedQuery(countQuery(), func(q *impl.Query) { q.Items[0] = itemOf(impl.AggSum, "pets.name") }),
		"no rows":     changedQuery(plainQuery(), func(q *impl.Query) { q.Limit = 0 }),
		"another one": changedQuery(countQuery(), func(q *impl.Query) { q.Table = "owners" }),
	}
}

func TestQueryForm(t *testing.T) {
	for why, d := range wrongDbs() {
		for what, q := range queriesOfZoo() {
			sameRefused(t, why+", "+what, d, q, impl.ErrForm)
		}
	}
	d := zoo()
	for why, q := range wrongQueries() {
		sameRefused(t, why, d, q, impl.ErrForm)
		sameRefused(t, why+", of none", impl.Db{}, q, impl.ErrForm)
	}
	for why, wrong := range wrongTables() {
		// The wrong table is not the one that is asked, and its name is not what is wrong, unless that is all.
		if impl.NameRight(wrong.Schema.Name) {
			wrong.Schema.Name = "zz"
		}
		sameRefused(t, "elsewhere: "+why, dbOf(append(zoo().Tables, wrong)...), plainQuery(), impl.ErrForm)
	}
}

// joined is a query of the zoo of two tables.
func joined() impl.Query { return queriesOfZoo()["join"] }

// unnamed are queries of the zoo that name what is not there, each in one place.
func unnamed() map[string]impl.Query {
	plain, join := plainQuery(), joined()
	none := map[string]impl.Query{
		"no Table":                    queriesOfZoo()["no table"],
		"no Table like it":            changedQuery(plain, func(q *impl.Query) { q.Table = "pet" }),
		"a longer Table":              changedQuery(plain, func(q *impl.Query) { q.Table = "petss" }),
		"another Table":               changedQuery(plain, func(q *impl.Query) { q.Table = "owners" }),
		"no Table, and count":         changedQuery(countQuery(), func(q *impl.Query) { q.Table = "dogs" }),
		"no Table, and no rows":       changedQuery(countQuery(), func(q *impl.Query) { q.Table, q.Limit = "dogs", 0 }),
		"no Join":                     changedQuery(join, func(q *impl.Query) { q.Join = "owner" }),
		"no Join that anything names": changedQuery(join, func(q *impl.Query) { q.Join, q.Right = "dogs", "pets.age" }),
		"no Table, but a Join":        changedQuery(join, func(q *impl.Query) { q.Table, q.Items[0], q.Left = "dogs", itemOf(0, "owners.pet"), "owners.pet" }),
		"an Agg of the Group alone":   changedQuery(countQuery(), func(q *impl.Query) { q.Group = "pets.city" }),
	}
	for _, column := range []string{"pets.owner", "pets.i", "pets.idd", "pets.pet", "pet.id", "cats.id", "id.pets", "pets.pets", "owners.id", longName(1) + "." + longName(2)} {
		for what, q := range map[string]impl.Query{"": plain, "join: ": join} {
			put := func(where string, do func(*impl.Query)) { none[what+where+" "+column] = changedQuery(q, do) }
			put("Item", func(q *impl.Query) { q.Items[0].Column = column })
			put("last Item", func(q *impl.Query) { q.Items = append(slices.Repeat(q.Items, impl.MaxColumns-1), itemOf(0, column)) })
			put("Where", func(q *impl.Query) { q.Where = termsOf(termOf(column, "=", intOf(1))) })
			put("Where null", func(q *impl.Query) { q.Where = termsOf(termOf(column, "is", null())) })
			put("last Where", func(q *impl.Query) {
				q.Where = append(slices.Repeat(termsOf(termOf("pets.name", "=", textOf("a"))), impl.MaxTerms-1), termOf(column, ">", intOf(1)))
			})
			put("Group", func(q *impl.Query) { q.Items, q.Group = itemsOf(itemOf(impl.AggCount, "")), column })
			put("Order", func(q *impl.Query) { q.Order = column })
			put("Order and Group", func(q *impl.Query) { q.Items[0].Column, q.Group, q.Order = column, column, column })
			for agg := int64(impl.AggSum); agg <= impl.AggMax; agg++ {
				put("Agg "+strconv.FormatInt(agg, 10), func(q *impl.Query) { q.Items[0] = itemOf(agg, column) })
			}
		}
		none["Left "+column] = changedQuery(join, func(q *impl.Query) { q.Left = column })
		none["Right "+column] = changedQuery(join, func(q *impl.Query) { q.Right = column })
		none["Left and Right "+column] = changedQuery(join, func(q *impl.Query) { q.Left, q.Right = column, column })
	}
	// A column that is there, but of no table that is asked.
	for where, do := range map[string]func(*impl.Query){
		"Item":  func(q *impl.Query) { q.Items = append(q.Items, itemOf(0, "none.id")) },
		"Where": func(q *impl.Query) { q.Where = termsOf(termOf("none.id", "=", intOf(1))) },
		"Group": func(q *impl.Query) { q.Items, q.Group = itemsOf(itemOf(impl.AggCount, "")), "none.id" },
		"Order": func(q *impl.Query) { q.Order = "none.id" },
	} {
		none["elsewhere: "+where] = changedQuery(plain, do)
		none["elsewhere of a join: "+where] = changedQuery(join, do)
	}
	none["elsewhere: Left"] = changedQuery(join, func(q *impl.Query) { q.Left = "none.id" })
	none["elsewhere: Right"] = changedQuery(join, func(q *impl.Query) { q.Right = "none.id" })
	return none
}

func TestQueryNone(t *testing.T) {
	for what, q := range unnamed() {
		sameRefused(t, what, zoo(), q, impl.ErrNone)
		sameRefused(t, what+", of no tables", impl.Db{}, q, impl.ErrNone)
	}
}

// unlike are queries of the zoo that hold a thing against one of another Kind, or add it, each in one place.
func unlike() map[string]impl.Query {
	wrong := map[string]impl.Query{}
	for _, pair := range [][]string{{"pets.id", "owners.name"}, {"pets.id", "owners.city"}, {"pets.age", "owners.good"}, {"pets.name", "owners.good"}, {"pets.id", "pets.name"}, {"owners.name", "owners.good"}} {
		wrong["joined: "+pair[0]+" "+pair[1]] = changedQuery(joined(), func(q *impl.Query) { q.Left, q.Right = pair[0], pair[1] })
		wrong["joined: "+pair[1]+" "+pair[0]] = changedQuery(joined(), func(q *impl.Query) { q.Left, q.Right = pair[1], pair[0] })
	}
	values := map[int64]impl.Value{impl.KindBool: boolOf(1), impl.KindInt: intOf(1), impl.KindText: textOf("a")}
	for column, kind := range plainKinds(zoo(), joined()) {
		for other, v := range values {
			for _, op := range comparisons() {
				if other != kind {
					wrong[fmt.Sprint("Term ", column, op, other)] = changedQuery(joined(), func(q *impl.Query) { q.Where = termsOf(termOf(column, op, v)) })
					wrong[fmt.Sprint("last Term ", column, op, other)] = changedQuery(joined(), func(q *impl.Query) {
						q.Where = append(slices.Repeat(termsOf(termOf(column, op, values[kind]), termOf(column, "is", null())), impl.MaxTerms/2-1), termOf(column, op, v))
					})
				}
			}
		}
		if kind != impl.KindInt {
			wrong["sum "+column] = changedQuery(joined(), func(q *impl.Query) { q.Items[0] = itemOf(impl.AggSum, column) })
			wrong["sum of the Group "+column] = changedQuery(joined(), func(q *impl.Query) {
				q.Items, q.Group = itemsOf(itemOf(0, column), itemOf(impl.AggSum, column)), column
			})
			wrong["last sum "+column] = changedQuery(joined(), func(q *impl.Query) {
				q.Items = append(slices.Repeat(itemsOf(itemOf(impl.AggSum, "pets.id"), itemOf(impl.AggMin, column), itemOf(impl.AggMax, column)), 3), itemOf(impl.AggSum, column))
			})
		}
	}
	wrong["Term of one table"] = askQuery(termOf("pets.name", "=", textOf("rex")), termOf("pets.age", "=", textOf("7")))
	wrong["sum of one table"] = changedQuery(askQuery(termOf("pets.name", "=", textOf("rex"))), func(q *impl.Query) { q.Items = itemsOf(itemOf(impl.AggSum, "pets.name")) })
	wrong["no rows anyway"] = changedQuery(wrong["sum of one table"], func(q *impl.Query) { q.Limit = 0 })
	return wrong
}

func TestQueryType(t *testing.T) {
	for what, q := range unlike() {
		sameRefused(t, what, zoo(), q, impl.ErrType)
	}
}

// What least and greatest are asked of, and what is null, may be of any kind.
func TestQueryNoType(t *testing.T) {
	for column := range plainKinds(zoo(), joined()) {
		q := changedQuery(joined(), func(q *impl.Query) {
			q.Items, q.Where = itemsOf(itemOf(impl.AggMin, column), itemOf(impl.AggMax, column)), termsOf(termOf(column, "is", null()))
		})
		same(t, column, impl.QueryCheck(zoo(), q), impl.OK)
		sameAnswer(t, column, impl.QueryRun(zoo(), q), answered(rowsOf("null null")))
	}
}

func TestQueryOrderOfFaults(t *testing.T) {
	wrongDb, d := dbOf(append(zoo().Tables, impl.Table{})...), zoo()
	for what, q := range unnamed() {
		sameRefused(t, "no right database: "+what, wrongDb, q, impl.ErrForm)
		sameRefused(t, "no right query: "+what, d, changedQuery(q, func(q *impl.Query) { q.Limit = -2 }), impl.ErrForm)
		sameRefused(t, "unlike kinds beside: "+what, d, changedQuery(q, func(q *impl.Query) {
			q.Where = append(termsOf(termOf("pets.id", "=", textOf("1"))), q.Where[len(q.Where)/impl.MaxTerms:]...)
		}), impl.ErrNone)
	}
	for what, q := range unlike() {
		sameRefused(t, "no right database: "+what, wrongDb, q, impl.ErrForm)
		sameRefused(t, "no right query: "+what, d, changedQuery(q, func(q *impl.Query) { q.Limit = 1001 }), impl.ErrForm)
		sameRefused(t, "no Table: "+what, d, changedQuery(q, func(q *impl.Query) { q.Table = "dogs" }), impl.ErrNone)
		sameRefused(t, "no tables: "+what, impl.Db{}, q, impl.ErrNone)
		sameRefused(t, "no column behind: "+what, d, changedQuery(q, func(q *impl.Query) {
			q.Where = append(q.Where, termOf("pets.owner", "is", null()))
		}), impl.ErrNone)
	}
	over := dbOf(overTable(math.MaxInt64, 1))
	q := queryOf(t, "select sum n.a from n")
	sameAnswer(t, "no Index, and a sum beyond", impl.QueryByIndex(over, q), unanswered(impl.ErrState))
	sameAnswer(t, "a sum beyond", impl.QueryRun(over, q), unanswered(impl.ErrOver))
}

// Sums that leave int64.

// overTable is a table of these numbers, row by row; a 0 stands for a null.
func overTable(numbers ...int64) impl.Table {
	x := impl.Table{Schema: impl.Schema{
		Name:    "n",
		Columns: []impl.Column{{Name: "id", Kind: impl.KindInt}, {Name: "a", Kind: impl.KindInt, Nullable: true}, {Name: "all", Kind: impl.KindInt}},
		Key:     []int64{0},
		Indexes: []impl.Index{{Columns: []int64{2}}},
	}}
	for i, n := range numbers {
		row := valuesOf(intOf(int64(i)), intOf(n), intOf(5))
		if n == 0 {
			row[1] = null()
		}
		x.Rows = append(x.Rows, row)
	}
	return x
}

// sumsTo looks at a sum found by an index and not, of one group and of all rows.
func sumsTo(t *testing.T, numbers []int64, want impl.AnswerOut) {
	t.Helper()
	d := dbOf(overTable(numbers...))
	for _, text := range []string{"select sum n.a from n where n.all = 5", "select sum n.a from n where n.all = 5 group by n.all", "select sum n.a from n where n.all = 5 group by n.all order by n.all desc limit 1"} {
		q := queryOf(t, text)
		same(t, text, impl.QueryCheck(d, q), impl.OK)
		sameAnswer(t, fmt.Sprint(text, " of ", numbers), impl.QueryRun(d, q), want)
		sameAnswer(t, fmt.Sprint(text, " by index of ", numbers), impl.QueryByIndex(d, q), want)
		sameAnswer(t, fmt.Sprint(text, " plainly of ", numbers), plainAnswer(d, q), want)
	}
}

func TestQuerySums(t *testing.T) {
	const most, least = math.MaxInt64, math.MinInt64
	for _, x := range []struct {
		sum     int64
		numbers []int64
	}{
		{most, []int64{most}},
		{least, []int64{least}},
		{most, []int64{most - 1, 1}},
		{most, []int64{1, most - 1}},
		{least, []int64{least + 1, -1}},
		{least, []int64{-1, least + 1}},
		{-1, []int64{most, least}},
		{-1, []int64{least, most}},
		{most - 1, []int64{most, -1}},
		{most, []int64{most, -1, 1}},
		{most, []int64{0, most, 0, -1, 0, 1, 0}},
		{least, []int64{least, 1, -1}},
		{-2, []int64{most, least, most, least}},
		{most - 1, []int64{1 << 62, 1<<62 - 2}},
		{least, []int64{-1 << 62, -1 << 62}},
		{0, []int64{5, -5}},
	} {
		sumsTo(t, x.numbers, answered([][]impl.Value{{intOf(x.sum)}}))
	}
	for _, numbers := range [][]int64{
		{most, 1}, {1, most}, {least, -1}, {-1, least}, {most, most}, {least, least}, {1 << 62, 1 << 62}, {-1 << 62, -1<<62 - 1},
		{most, 1, -1}, {least, -1, 1}, {most, 0, 1}, {0, most, 1}, {1, most, least}, {most, most, least, least}, {most, -1, 1, 1}, {5, -5, least, -1, most},
	} {
		sumsTo(t, numbers, unanswered(impl.ErrOver))
	}
	sumsTo(t, []int64{0, 0}, answered(rowsOf("null")))
}

// A sum is only added up of the rows, in the groups and of the items that are told.
func TestQuerySumsThatAreTold(t *testing.T) {
	const most = math.MaxInt64
	d := dbOf(overTable(most, 1, -1, 7), tableOf(named(overTable().Schema, "p"), rowsOf("0 2 5 | 1 2 5")...))
	for text, want := range map[string]impl.AnswerOut{
		"select sum n.a from n":                                                                                 unanswered(impl.ErrOver),
		"select count , sum n.a from n":                                                                         unanswered(impl.ErrOver),
		"select sum n.id , min n.a , sum n.a from n":                                                            unanswered(impl.ErrOver),
		"select sum n.a from n limit 1":                                                                         unanswered(impl.ErrOver),
		"select sum n.a from n limit 0":                                                                         answered(nil),
		"select sum n.id from n":                                                                                answered(rowsOf("6")),
		"select max n.a , count from n":                                                                         answered([][]impl.Value{{intOf(most), intOf(4)}}),
		"select sum n.a from n where n.id != 1":                                                                 unanswered(impl.ErrOver),
		"select sum n.a from n where n.id > 0":                                                                  answered(rowsOf("7")),
		"select sum n.a from n where n.id <= 0":                                                                 answered([][]impl.Value{{intOf(most)}}),
		"select n.a from n order by n.a desc limit 2":                                                           answered([][]impl.Value{{intOf(most)}, {intOf(7)}}),
		"select sum n.a , n.id from n group by n.id":                                                            answered([][]impl.Value{{intOf(most), intOf(0)}, {intOf(1), intOf(1)}, {intOf(-1), intOf(2)}, {intOf(7), intOf(3)}}),
		"select sum n.a from n group by n.all":                                                                  unanswered(impl.ErrOver),
		"select sum n.a from n group by n.all limit 0":                                                          answered(nil),
		"select sum n.a from n join p on n.all = p.all":                                                         unanswered(impl.ErrOver),
		"select sum n.a from n join p on n.all = p.all where p.id = 0":                                          unanswered(impl.ErrOver),
		"select sum p.a from n join p on n.all = p.all":                                                         answered(rowsOf("16")),
		"select sum n.a from n join p on n.id = p.id group by p.id":                                             answered([][]impl.Value{{intOf(most)}, {intOf(1)}}),
		"select sum n.a , n.id from n join p on n.all = p.all group by n.id limit 1":                            unanswered(impl.ErrOver),
		"select n.id , sum n.a from n join p on n.all = p.all group by n.id order by n.id desc limit 3":         answered(rowsOf("3 14 | 2 -2 | 1 2")),
		"select n.id , sum n.a from n join p on n.all = p.all group by n.id order by n.id desc limit 4":         unanswered(impl.ErrOver),
		"select n.id , sum n.a from n join p on n.all = p.all where n.id >= 2 group by n.id order by n.id":      answered(rowsOf("2 -2 | 3 14")),
		"select n.id , count , min n.all from n join p on n.all = p.all group by n.id order by n.id limit 2":    answered(rowsOf("0 2 5 | 1 2 5")),
		"select sum n.all , count , sum n.id , sum p.id from n join p on n.all = p.all":                         answered(rowsOf("40 8 12 4")),
		"select count , sum p.a , sum n.a from p join n on n.all = p.all where n.id >= 1 and n.id <= 2":         answered(rowsOf("4 8 0")),
		"select count , sum p.a , sum n.a from p join n on n.all = p.all where n.id >= 1 and n.id <= 2 limit 0": answered(nil),
	} {
		q := queryOf(t, text)
		same(t, text, impl.QueryCheck(d, q), impl.OK)
		sameAnswer(t, text, impl.QueryRun(d, q), want)
		sameAnswer(t, text+": plainly", plainAnswer(d, q), want)
	}
}

// The rows of a join come by those of the Table first, so that a sum may leave int64 the one way round, and not the other.
func TestQuerySumsInOrder(t *testing.T) {
	const most = math.MaxInt64
	d := dbOf(
		tableOf(named(overTable().Schema, "n"), valuesOf(intOf(0), intOf(most), intOf(5)), valuesOf(intOf(1), intOf(-most), intOf(5))),
		tableOf(named(overTable().Schema, "p"), rowsOf("0 2 5 | 1 2 5")...),
	)
	for text, want := range map[string]impl.AnswerOut{
		"select sum n.a from n join p on n.all = p.all": unanswered(impl.ErrOver),
		"select sum n.a from p join n on n.all = p.all": answered(rowsOf("0")),
	} {
		sameAnswer(t, text, impl.QueryRun(d, queryOf(t, text)), want)
	}
}

// Found by an index.

func TestQueryByIndex(t *testing.T) {
	d := zoo()
	for text, rows := range map[string]string{
		"select pets.id from pets where pets.name = 'rex'":                                                   "1",
		"select pets.id from pets where pets.name = 'nobody'":                                                "",
		"select pets.id from pets where pets.age = 7":                                                        "1 | 4",
		"select pets.id from pets where pets.age = 7 order by pets.name desc":                                "4 | 1",
		"select pets.id from pets where pets.age = 7 order by pets.age desc":                                 "1 | 4",
		"select pets.id from pets where pets.age = 7 limit 1":                                                "1",
		"select pets.id from pets where pets.age = 7 limit 0":                                                "",
		"select pets.id from pets where pets.id > 1 and pets.age = 7":                                        "4",
		"select pets.id from pets where pets.age = 7 and pets.id > 1":                                        "4",
		"select pets.id from pets where pets.age = 7 and pets.age = 3":                                       "",
		"select pets.id from pets where pets.name = 'tom' and pets.age = 7":                                  "4",
		"select pets.id from pets where pets.age = 7 and pets.name = 'tom'":                                  "4",
		"select pets.id from pets where pets.age != 7 and pets.name = 'tom'":                                 "",
		"select pets.id from pets where pets.age is null and pets.name = 'kit'":                              "5",
		"select count , sum pets.id from pets where pets.age = 7":                                            "2 5",
		"select count , sum pets.id from pets where pets.age = 8":                                            "0 null",
		"select pets.age , count from pets where pets.age = 7 group by pets.age":                             "7 2",
		"select pets.name , count from pets where pets.age = 7 group by pets.name order by pets.name desc":   "'tom' 1 | 'rex' 1",
		"select pets.age , count from pets where pets.age = 8 group by pets.age":                             "",
		"select owners.name from owners where owners.city = 'bern'":                                          "'ann' | 'ian' | 'liz'",
		"select owners.name from owners where owners.pet = 3 and owners.good = true":                         "'ann' | 'joe'",
		"select owners.name from owners where owners.good = false":                                           "'eve' | 'liz'",
		"select owners.name from owners where owners.name > 'b' and owners.good = true":                      "'joe'",
		"select owners.city , count from owners where owners.pet = 3 group by owners.city":                   "'bern' 1 | 'rome' 1",
		"select none.id from none where none.name = ''":                                                      "",
		"select count from none where none.age = 0":                                                          "0",
		"select max pets.name , min pets.id from pets where pets.id < 4 and pets.id != 3 and pets.age = 7":   "'rex' 1",
		"select pets.id from pets where pets.id = 4 and pets.id = 4 and pets.id = 4 and pets.name = 'tom'":   "4",
		"select pets.id from pets where pets.name = 'tom' and pets.name = 'rex'":                             "",
		"select pets.id , pets.age from pets where pets.age = 3 order by pets.id desc limit 1000":            "3 3",
		"select owners.name from owners where owners.city = 'bern' order by owners.good limit 2":             "'ian' | 'liz'",
		"select owners.name from owners where owners.city = 'bern' order by owners.pet desc limit 2":         "'liz' | 'ann'",
		"select min owners.pet , max owners.pet , sum owners.pet from owners where owners.city = 'rome'":     "2 3 5",
		"select owners.good , min owners.name from owners where owners.city = 'bern' group by owners.good":   "null 'ian' | false 'liz' | true 'ann'",
		"select owners.pet from owners where owners.city = 'bern' and owners.pet is null":                    "null",
		"select owners.pet from owners where owners.city = 'bern' and owners.pet < 9 and owners.good = true": "3",
	} {
		q, want := queryOf(t, text), answered(rowsOf(rows))
		sameAnswer(t, text, impl.QueryByIndex(d, q), want)
		sameAnswer(t, text+": run", impl.QueryRun(d, q), want)
		sameAnswer(t, text+": plainly", plainByIndex(d, q), want)
	}
}

// Where no index finds what is asked, that is told, though the query has an answer.
func TestQueryByIndexState(t *testing.T) {
	d := zoo()
	for _, text := range []string{
		"select pets.id from pets",
		"select count from pets",
		"select pets.id from pets limit 0",
		"select count from none",
		"select pets.id from pets where pets.id = 1",
		"select pets.id from pets where pets.name != 'rex'",
		"select pets.id from pets where pets.name <= 'rex' and pets.name >= 'rex'",
		"select pets.id from pets where pets.name > 'rex' and pets.age < 7",
		"select pets.id from pets where pets.age is null",
		"select pets.name from pets order by pets.name",
		"select pets.name from pets group by pets.name",
		"select owners.name from owners where owners.name = 'ann'",
		"select owners.name from owners where owners.name = 'ann' and owners.pet > 3 and owners.city is null",
		"select pets.id from pets join owners on pets.id = owners.pet",
		"select pets.id from pets join owners on pets.id = owners.pet where pets.name = 'rex'",
		"select pets.id from pets join owners on pets.id = owners.pet where owners.city = 'bern'",
		"select count from pets join owners on pets.name = owners.name where pets.name = 'rex' and pets.age = 7 limit 0",
	} {
		q := queryOf(t, text)
		same(t, text, impl.QueryCheck(d, q), impl.OK)
		sameAnswer(t, text, impl.QueryByIndex(d, q), unanswered(impl.ErrState))
		sameAnswer(t, text+": plainly", plainByIndex(d, q), unanswered(impl.ErrState))
	}
}

// The index may be any of the schema's, and what it begins with any of the columns; a column behind its first one is not found by it.
func TestQueryByAnyIndex(t *testing.T) {
	s := greatest()
	s.Key, s.Indexes = []int64{1}, []impl.Index{{Columns: []int64{3, 4}}, {Columns: []int64{0}}, {Columns: []int64{5, 0, 1}}, {Columns: []int64{9, 6, 2}, Unique: true}}
	x := tableOf(s)
	for i := range int64(9) {
		var row []impl.Value
		for c, column := range s.Columns {
			row = append(row, map[int64]impl.Value{impl.KindBool: boolOf(i % 2), impl.KindInt: intOf(i % 3 * int64(c)), impl.KindText: textOf(strconv.FormatInt(i%4, 10))}[column.Kind])
		}
		row[1] = intOf(i)
		row[9] = boolOf(i % 2)
		row[2] = textOf(strconv.FormatInt(i, 10))
		x.Rows = append(x.Rows, row)
	}
	d := dbOf(x)
	same(t, "the test's database", impl.DbRight(d), true)
	for c, column := range s.Columns {
		q := impl.Query{Table: s.Name, Limit: -1}
		for _, other := range s.Columns {
			q.Items = append(q.Items, itemOf(0, s.Name+"."+other.Name))
		}
		for _, row := range x.Rows {
			asks := changedQuery(q, func(q *impl.Query) { q.Where = termsOf(termOf(s.Name+"."+column.Name, "=", row[c])) })
			want := answered(slices.DeleteFunc(slices.Clone(x.Rows), func(other []impl.Value) bool { return other[c] != row[c] }))
			sameAnswer(t, "run of "+column.Name, impl.QueryRun(d, asks), want)
			if !slices.Contains([]int{3, 0, 5, 9}, c) {
				want = unanswered(impl.ErrState)
			}
			sameAnswer(t, "by index of "+column.Name, impl.QueryByIndex(d, asks), want)
		}
	}
}

// As much as may be.

// wideTable is a table of as many columns and rows as may be: all but the id are alike in all rows.
func wideTable(name string) impl.Table {
	s := impl.Schema{Name: name, Key: []int64{0}}
	for c := range impl.MaxColumns {
		s.Columns = append(s.Columns, impl.Column{Name: longName(c), Kind: impl.KindInt})
	}
	x := tableOf(s)
	for i := range impl.MaxRows {
		row := valuesOf(intOf(int64(i)))
		for c := 1; c < impl.MaxColumns; c++ {
			row = append(row, intOf(int64(c)))
		}
		x.Rows = append(x.Rows, row)
	}
	return x
}

// A join's rows have more values than right ones may be, and may be more than a list may have.
func TestQueryOfWideJoin(t *testing.T) {
	a, b := longName(1), longName(2)
	d := dbOf(wideTable(a), wideTable(b))
	column := func(table string, c int) string { return table + "." + longName(c) }
	q := impl.Query{Table: b, Join: a, Left: column(a, 9), Right: column(b, 9), Limit: -1}
	for c := range impl.MaxColumns {
		q.Items = append(q.Items, itemOf(0, column([]string{b, a}[c%2], c/9*9)))
	}
	for range impl.MaxTerms / 2 {
		q.Where = append(q.Where, termOf(column(a, 8), "=", intOf(8)), termOf(column(b, 9), "!=", intOf(8)))
	}
	var want [][]impl.Value
	for i := range int64(impl.MaxRows) {
		for j := range int64(impl.MaxRows) {
			want = append(want, append(slices.Repeat(valuesOf(intOf(i), intOf(j)), 4), intOf(i), intOf(9)))
		}
	}
	sameAnswer(t, "all", impl.QueryRun(d, q), answered(want))
	for _, limit := range []int64{0, 1, 59, 60, 61, impl.MaxList, impl.MaxList + 1, 999, 1000} {
		sameAnswer(t, fmt.Sprint("limit ", limit), impl.QueryRun(d, changedQuery(q, func(q *impl.Query) { q.Limit = limit })), answered(want[:limit]))
	}
	down := changedQuery(q, func(q *impl.Query) { q.Order, q.Down = column(a, 0), true })
	slices.SortStableFunc(want, func(x []impl.Value, y []impl.Value) int { return int(y[1].Num - x[1].Num) })
	sameAnswer(t, "ordered", impl.QueryRun(d, down), answered(want))
	counts := changedQuery(q, func(q *impl.Query) {
		q.Group = column(a, 0)
		q.Items = itemsOf(itemOf(0, q.Group), itemOf(impl.AggCount, ""), itemOf(impl.AggSum, column(b, 0)), itemOf(impl.AggMax, column(b, 9)))
	})
	want = nil
	for j := range int64(impl.MaxRows) {
		want = append(want, valuesOf(intOf(j), intOf(60), intOf(59*60/2), intOf(9)))
	}
	sameAnswer(t, "groups", impl.QueryRun(d, counts), answered(want))
}

// The longest texts, of any bytes, are told, ordered, joined and put into groups whole.
func TestQueryOfLongTexts(t *testing.T) {
	front := strings.Repeat("\x00", impl.MaxText-1)
	texts := valuesOf(textOf(front+"b"), null(), textOf(front+"a"), textOf(front), textOf(front+"b"), textOf(""), textOf(front+"\xff"))
	s := impl.Schema{Name: "t", Columns: []impl.Column{{Name: "k", Kind: impl.KindInt}, {Name: "t", Kind: impl.KindText, Nullable: true}}, Key: []int64{0}, Indexes: []impl.Index{{Columns: []int64{1}}}}
	x := tableOf(s)
	for i, v := range texts {
		x.Rows = append(x.Rows, valuesOf(intOf(int64(i)), v))
	}
	d := dbOf(x, tableOf(named(s, "u"), x.Rows...))
	for text, rows := range map[string]string{
		"select t.k from t order by t.t":                                     "1 | 5 | 3 | 2 | 0 | 4 | 6",
		"select t.k from t order by t.t desc":                                "6 | 0 | 4 | 2 | 3 | 5 | 1",
		"select sum t.k from t group by t.t":                                 "1 | 5 | 3 | 2 | 4 | 6",
		"select t.k , u.k from t join u on t.t = u.t":                        "0 0 | 0 4 | 2 2 | 3 3 | 4 0 | 4 4 | 5 5 | 6 6",
		"select t.k from t where t.t = ''":                                   "5",
		"select t.k from t where t.t > ''":                                   "0 | 2 | 3 | 4 | 6",
		"select t.k from t where t.t is null":                                "1",
		"select count , min t.t from t where t.t < 'a'":                      "6 ''",
		"select u.k , count from t join u on t.t = u.t group by u.k limit 3": "0 2 | 2 1 | 3 1",
	} {
		sameAnswer(t, text, impl.QueryRun(d, queryOf(t, text)), answered(rowsOf(rows)))
	}
	sameAnswer(t, "told", impl.QueryRun(d, queryOf(t, "select t.t , max t.t from t group by t.t order by t.t desc limit 1")), answered([][]impl.Value{{texts[6], texts[6]}}))
}

func TestQueryOfManyTables(t *testing.T) {
	d := dbOf(smallTables(impl.MaxTables)...)
	for _, x := range d.Tables {
		q := impl.Query{Table: x.Schema.Name, Limit: -1}
		for _, c := range x.Schema.Columns {
			q.Items = append(q.Items, itemOf(0, x.Schema.Name+"."+c.Name))
		}
		sameAnswer(t, x.Schema.Name, impl.QueryRun(d, q), answered(x.Rows))
	}
}

// What is drawn.

// fewWithin are right values that a column may have: so few that rows are joined, or stand in one group, often. The wild ones let sums leave int64.
func fewWithin(c impl.Column, wild bool) []impl.Value {
	few := map[int64][]impl.Value{
		impl.KindBool: {boolOf(0), boolOf(1)},
		impl.KindInt:  {intOf(-1), intOf(0), intOf(1), intOf(2), intOf(256)},
		impl.KindText: {textOf(""), textOf("a"), textOf("ab"), textOf("b"), textOf("-"), textOf("a\x00"), textOf("\xff")},
	}[c.Kind]
	if wild && c.Kind == impl.KindInt {
		few = []impl.Value{intOf(1), intOf(-1), intOf(math.MaxInt64), intOf(math.MinInt64), intOf(math.MaxInt64 - 1), intOf(1 << 62)}
	}
	if c.Nullable {
		few = append(few, null(), null())
	}
	return few
}

// drawAsked draws a right database of up to three tables, whose columns have names and kinds alike often.
func drawAsked(r *rand.Rand) impl.Db {
	var d impl.Db
	wild := r.Intn(2) == 0
	for _, name := range []string{"a", "b", "c"}[r.Intn(3):] {
		s := impl.Schema{Name: name, Columns: []impl.Column{{Name: "k", Kind: impl.KindInt}}, Key: []int64{0}}
		for _, column := range []string{"v", "w", "x", "y"}[:r.Intn(5)] {
			s.Columns = append(s.Columns, impl.Column{Name: column, Kind: oneOf[int64](r, impl.KindBool, impl.KindInt, impl.KindInt, impl.KindText), Nullable: r.Intn(2) == 0})
		}
		for range r.Intn(impl.MaxIndexes + 1) {
			columns := r.Perm(len(s.Columns))[:1+r.Intn(len(s.Columns))]
			x := impl.Index{Unique: r.Intn(6) == 0}
			for _, c := range columns {
				x.Columns = append(x.Columns, int64(c))
			}
			s.Indexes = append(s.Indexes, x)
		}
		t := tableOf(s)
		for k := range oneOf(r, 0, 1, 4, 6, 9, 14) {
			row := valuesOf(intOf(int64(k) - 1))
			for _, c := range s.Columns[1:] {
				row = append(row, oneOf(r, fewWithin(c, wild)...))
			}
			if out := plainInsert(t, row); out.Code == impl.OK {
				t = out.Table
			}
		}
		d.Tables = append(d.Tables, t)
	}
	return d
}

// drawAsking draws a query of a database, now and then one that is refused.
func drawAsking(r *rand.Rand, d impl.Db) impl.Query {
	q := impl.Query{Table: oneOf(r, d.Tables...).Schema.Name, Limit: oneOf[int64](r, -1, -1, -1, 0, 1, 2, 3, 20, 1000)}
	if r.Intn(40) == 0 {
		q.Table = "c"
	}
	if other := oneOf(r, "a", "b", "c", "c"); other != q.Table && r.Intn(3) == 0 && (len(plainTable(d, other)) > 0 || r.Intn(10) == 0) {
		q.Join = other
	}
	columns := slices.Sorted(maps.Keys(plainKinds(d, q)))
	if r.Intn(25) == 0 || len(columns) == 0 {
		columns = append(columns, "a.v", "b.v", "c.k", "d.k")
	}
	if q.Join != "" {
		q.Left, q.Right = drawLike(r, d, q, columns)
	}
	for range oneOf(r, 0, 0, 0, 1, 1, 2, 3) {
		q.Where = append(q.Where, drawAskedTerm(r, d, q, oneOf(r, columns...)))
	}
	grouped := r.Intn(2) == 0
	if grouped && r.Intn(4) > 0 {
		q.Group = oneOf(r, columns...)
	}
	for range oneOf(r, 1, 1, 2, 3, 10) {
		q.Items = append(q.Items, drawAskedItem(r, d, q, grouped, oneOf(r, columns...)))
	}
	if r.Intn(2) == 0 {
		q.Order = q.Group
		if !grouped {
			q.Order = oneOf(r, columns...)
		}
		q.Down = q.Order != "" && r.Intn(2) == 0
	}
	if r.Intn(30) == 0 {
		q.Limit, q.Down = oneOf[int64](r, -2, 4, 1001), r.Intn(2) == 0
	}
	return q
}

// drawLike draws two columns, mostly of one kind.
func drawLike(r *rand.Rand, d impl.Db, q impl.Query, columns []string) (string, string) {
	kinds := plainKinds(d, q)
	left := oneOf(r, columns...)
	like := slices.DeleteFunc(slices.Clone(columns), func(column string) bool { return kinds[column] != kinds[left] })
	if r.Intn(30) == 0 {
		like = columns
	}
	return left, oneOf(r, like...)
}

// drawAskedTerm draws a term of a column, mostly of a value that its rows may have.
func drawAskedTerm(r *rand.Rand, d impl.Db, q impl.Query, column string) impl.Term {
	kind := plainKinds(d, q)[column]
	if r.Intn(60) == 0 {
		kind = 1 + r.Int63n(3)
	}
	values := slices.DeleteFunc(fewWithin(impl.Column{Kind: kind}, false), func(v impl.Value) bool { return !plainWorded(v) })
	if r.Intn(6) == 0 || len(values) == 0 {
		return termOf(column, "is", null())
	}
	return termOf(column, oneOf(r, append(comparisons(), "=", "=")...), oneOf(r, values...))
}

func drawAskedItem(r *rand.Rand, d impl.Db, q impl.Query, grouped bool, column string) impl.Item {
	agg := int64(impl.AggNone)
	if grouped {
		agg = oneOf[int64](r, impl.AggCount, impl.AggSum, impl.AggSum, impl.AggMin, impl.AggMax)
	}
	if q.Group != "" && r.Intn(3) == 0 {
		agg, column = impl.AggNone, q.Group
	}
	kinds := plainKinds(d, q)
	if agg == impl.AggSum && kinds[column] != impl.KindInt && r.Intn(30) > 0 {
		maps.DeleteFunc(kinds, func(_ string, kind int64) bool { return kind != impl.KindInt })
		column = oneOf(r, append(slices.Sorted(maps.Keys(kinds)), "a.k")...)
	}
	if agg == impl.AggCount {
		column = ""
	}
	return itemOf(agg, column)
}

// eachDrawn goes through drawn databases, with a drawn query of each at a time.
func eachDrawn(seed int64, many int, do func(r *rand.Rand, d impl.Db, q impl.Query)) {
	r := rand.New(rand.NewSource(seed))
	for range many / 20 {
		d := drawAsked(r)
		for range 20 {
			do(r, d, drawAsking(r, d))
		}
	}
}

// Drawn queries are answered as the plain functions say.
func TestQueriesAnsweredAsPlain(t *testing.T) {
	ran, found := map[int64]int{}, map[int64]int{}
	eachDrawn(111, 16000, func(r *rand.Rand, d impl.Db, q impl.Query) {
		run, byIndex := answersAsPlain(t, tellQuery(q)+" of "+tellDb(d), d, q)
		ran[run]++
		found[byIndex]++
	})
	for code, least := range map[int64]int{impl.OK: 7000, impl.ErrForm: 100, impl.ErrNone: 300, impl.ErrType: 200, impl.ErrOver: 100} {
		if ran[code] < least {
			t.Errorf("code %d came %d times alone: the test looks at too little", code, ran[code])
		}
	}
	if found[impl.OK] < 1000 || found[impl.ErrState] < 3000 {
		t.Errorf("by index: codes %v: the test looks at too little", found)
	}
}

// findable asks also for a value that an index finds, if there is one.
func findable(r *rand.Rand, d impl.Db, q impl.Query) impl.Query {
	for _, x := range plainTable(d, q.Table) {
		if len(x.Schema.Indexes) > 0 && len(x.Rows) > 0 {
			c := oneOf(r, x.Schema.Indexes...).Columns[0]
			if v := oneOf(r, x.Rows...)[c]; plainWorded(v) && v != null() {
				q.Where = slices.Insert(q.Where, r.Intn(len(q.Where)+1), termOf(q.Table+"."+x.Schema.Columns[c].Name, "=", v))
			}
		}
	}
	return q
}

// Where there is an answer by an index, it is the one that there is without. (Promise 18.)
func TestFoundByIndexOrNot(t *testing.T) {
	found, told := map[int64]int{}, 0
	eachDrawn(112, 20000, func(r *rand.Rand, d impl.Db, q impl.Query) {
		q = findable(r, d, q)
		run, byIndex := impl.QueryRun(d, q), impl.QueryByIndex(d, q)
		sameAnswer(t, tellQuery(q)+": plainly", byIndex, plainByIndex(d, q))
		if byIndex.Code == impl.ErrState {
			return
		}
		sameAnswer(t, tellQuery(q), byIndex, run)
		found[run.Code]++
		told += min(len(run.Rows), 1)
	})
	if found[impl.OK] < 4000 || found[impl.ErrOver] < 10 || told < 2000 {
		t.Errorf("codes %v, %d with rows: the test looks at too little", found, told)
	}
}

// numIn tells the one number that is told of a query.
func numIn(t *testing.T, d impl.Db, q impl.Query) int64 {
	t.Helper()
	out := impl.QueryRun(d, q)
	if out.Code != impl.OK || len(out.Rows) != 1 || len(out.Rows[0]) != 1 || out.Rows[0][0].Kind != impl.KindInt {
		t.Fatalf("%s: got %s, want a number", tellQuery(q), brief(out))
	}
	return out.Rows[0][0].Num
}

// counting asks how many rows a query is of.
func counting(q impl.Query) impl.Query {
	q.Items, q.Group, q.Order, q.Down, q.Limit = itemsOf(itemOf(impl.AggCount, "")), "", "", false, -1
	return q
}

// As many rows are told as a count tells, at most Limit. (Promise 19.)
func TestAsManyRowsAsCounted(t *testing.T) {
	looked, limited := 0, 0
	eachDrawn(113, 8000, func(r *rand.Rand, d impl.Db, q impl.Query) {
		q.Items, q.Group = itemsOf(itemOf(0, oneOf(r, append(slices.Sorted(maps.Keys(plainKinds(d, q))), "a.k")...))), ""
		if plainCheck(d, q) != impl.OK {
			return
		}
		out, all := impl.QueryRun(d, q), numIn(t, d, counting(q))
		many := all
		if q.Limit >= 0 && q.Limit < all {
			many = q.Limit
			limited++
		}
		same(t, tellQuery(q)+": code", out.Code, impl.OK)
		same(t, tellQuery(q)+": rows", int64(len(out.Rows)), many)
		looked++
	})
	if looked < 2000 || limited < 500 {
		t.Errorf("%d queries, %d of them limited: the test looks at too little", looked, limited)
	}
}

// rises tells whether rows rise by their first values, or fall; those of groups have no two alike.
func rises(rows [][]impl.Value, down bool, apart bool) bool {
	for i := 1; i < len(rows); i++ {
		ahead, behind := rows[i-1][:1], rows[i][:1]
		if down {
			ahead, behind = behind, ahead
		}
		if c := impl.Compare(ahead, behind); c > 0 || c == 0 && apart {
			return false
		}
	}
	return true
}

// What is ordered rises, or falls, and rows of like values stay in their order; all of it is what is told without an order. (Promise 19.)
func TestOrderedRowsRise(t *testing.T) {
	rose := map[string]int{}
	eachDrawn(114, 16000, func(r *rand.Rand, d impl.Db, q impl.Query) {
		names := append(slices.Sorted(maps.Keys(plainKinds(d, q))), "a.k")
		grouped := r.Intn(3) == 0
		q.Order, q.Down, q.Group = oneOf(r, names...), r.Intn(2) == 0, ""
		q.Items = itemsOf(itemOf(0, q.Order))
		if grouped {
			q.Group = q.Order
		} else {
			for _, name := range names[:min(len(names), impl.MaxColumns-1)] {
				q.Items = append(q.Items, itemOf(0, name))
			}
		}
		if plainCheck(d, q) != impl.OK {
			return
		}
		out := impl.QueryRun(d, q)
		same(t, tellQuery(q)+": "+tellRows(out.Rows), rises(out.Rows, q.Down, grouped), true)
		if len(out.Rows) > 2 {
			rose[fmt.Sprint(q.Down, grouped)]++
		}
		if !grouped && q.Limit == -1 {
			q.Order, q.Down = "", false
			sameRowsLeft(t, tellQuery(q), impl.QueryRun(d, q).Rows, out.Rows)
		}
	})
	for _, way := range []string{"false false", "true false", "false true", "true true"} {
		if rose[way] < 100 {
			t.Errorf("%s: %d answers alone: the test looks at too little", way, rose[way])
		}
	}
}

// sameRowsLeft looks whether the rows of each first value come in the one list as in the other.
func sameRowsLeft(t *testing.T, what string, rows [][]impl.Value, ordered [][]impl.Value) {
	t.Helper()
	same(t, what+": rows", len(ordered), len(rows))
	for _, row := range rows {
		unlike := func(other []impl.Value) bool { return other[0] != row[0] }
		same(t, what+": like rows", tellRows(slices.DeleteFunc(slices.Clone(ordered), unlike)), tellRows(slices.DeleteFunc(slices.Clone(rows), unlike)))
	}
}

// withValue asks also that a column has a value.
func withValue(q impl.Query, column string, v impl.Value) impl.Query {
	op := "="
	if v == null() {
		op = "is"
	}
	return changedQuery(q, func(q *impl.Query) { q.Where = append(q.Where, termOf(column, op, v)) })
}

// The counts of groups come together to the count of all rows, and there are as many groups as there are values. (Promise 20.)
func TestGroupsComeTogether(t *testing.T) {
	many := map[int]int{}
	eachDrawn(115, 8000, func(r *rand.Rand, d impl.Db, q impl.Query) {
		q.Group = oneOf(r, append(slices.Sorted(maps.Keys(plainKinds(d, q))), "a.k")...)
		q.Order = oneOf(r, "", q.Group)
		q.Down, q.Limit = q.Order != "" && r.Intn(2) == 0, -1
		q.Items = itemsOf(itemOf(0, q.Group), itemOf(impl.AggCount, ""))
		if plainCheck(d, q) != impl.OK {
			return
		}
		out, together := impl.QueryRun(d, q), int64(0)
		values := map[impl.Value]bool{}
		for _, row := range out.Rows {
			together += row[1].Num
			values[row[0]] = true
			same(t, tellQuery(q)+": a group of none", row[1].Num > 0, true)
			if plainWorded(row[0]) {
				same(t, tellQuery(q)+": rows of "+brief(row[0]), row[1].Num, numIn(t, d, counting(withValue(q, q.Group, row[0]))))
			}
		}
		same(t, tellQuery(q)+": together", together, numIn(t, d, counting(q)))
		same(t, tellQuery(q)+": groups", len(out.Rows), len(values))
		many[min(len(values), 4)]++
	})
	for groups, least := range []int{100, 100, 100, 100, 300} {
		if many[groups] < least {
			t.Errorf("%d groups: %d answers alone: the test looks at too little", groups, many[groups])
		}
	}
}

// What is handed in, and what is told.

// withRoom is a list with room behind it, in which what is put there would be seen.
func withRoom[T any](l []T) []T { return slices.Grow(slices.Clone(l), 4) }

// roomBehind tells whether nothing was put behind a list.
func roomBehind[T comparable](l []T) bool {
	var zero T
	return !slices.ContainsFunc(l[len(l):cap(l)], func(x T) bool { return x != zero })
}

// roomyDb is a database whose lists have room behind them.
func roomyDb(d impl.Db) impl.Db {
	d = cloneDb(d)
	for i := range d.Tables {
		x := &d.Tables[i]
		x.Schema.Columns, x.Schema.Key = withRoom(x.Schema.Columns), withRoom(x.Schema.Key)
		for j := range x.Schema.Indexes {
			x.Schema.Indexes[j].Columns = withRoom(x.Schema.Indexes[j].Columns)
		}
		for j := range x.Rows {
			x.Rows[j] = withRoom(x.Rows[j])
		}
		x.Rows = withRoom(x.Rows)
	}
	return d
}

func roomIsLeft(d impl.Db, q impl.Query) bool {
	left := roomBehind(q.Items) && roomBehind(q.Where)
	for _, x := range d.Tables {
		left = left && roomBehind(x.Schema.Columns) && roomBehind(x.Schema.Key)
		for _, index := range x.Schema.Indexes {
			left = left && roomBehind(index.Columns)
		}
		for _, row := range x.Rows {
			left = left && roomBehind(row)
		}
		left = left && !slices.ContainsFunc(x.Rows[len(x.Rows):cap(x.Rows)], func(row []impl.Value) bool { return row != nil })
	}
	return left
}

// askings are queries of the zoo of each kind, and such as are refused.
func askings(t *testing.T) map[string]impl.Query {
	all := queriesOfZoo()
	for text := range toldByZoo() {
		all[text] = queryOf(t, text)
	}
	maps.Copy(all, unlike())
	all["zero"] = impl.Query{}
	return all
}

func TestAskedThingsAreNotChanged(t *testing.T) {
	d := roomyDb(zoo())
	was := tellDb(d)
	for what, q := range byName(askings(t)) {
		q.Items, q.Where = withRoom(q.Items), withRoom(q.Where)
		asks := tellQuery(q)
		impl.QueryCheck(d, q)
		impl.QueryRun(d, q)
		impl.QueryByIndex(d, q)
		same(t, what, tellQuery(q), asks)
		same(t, what+": room", roomIsLeft(d, q), true)
	}
	same(t, "the database", tellDb(d), was)
	for why, wrong := range byName(wrongDbs()) {
		wrong = roomyDb(wrong)
		told, q := tellDb(wrong), queriesOfZoo()["by index"]
		impl.QueryCheck(wrong, q)
		impl.QueryRun(wrong, q)
		impl.QueryByIndex(wrong, q)
		same(t, why, tellDb(wrong), told)
	}
}

// An answer's lists are its own: neither one another's, nor those of what was asked, nor of other answers.
func TestAnswersStay(t *testing.T) {
	d := zoo()
	spans := spansOfDb(d, "zoo")
	told := map[string]impl.AnswerOut{}
	for what, q := range byName(askings(t)) {
		spans = append(spans, spansOfQuery(q, what)...)
		for i := range 2 {
			name := fmt.Sprint(what, ", ", i)
			told[name+" run"], told[name+" by index"] = impl.QueryRun(d, q), impl.QueryByIndex(d, q)
			for _, way := range []string{" run", " by index"} {
				spans = append(spans, spansOfRows(told[name+way].Rows, name+way)...)
			}
		}
	}
	spansApart(t, "told", spans)
	asks := askings(t)
	for what, q := range byName(asks) {
		for i := range 2 {
			sameAnswer(t, what, told[fmt.Sprint(what, ", ", i, " run")], plainAnswer(zoo(), q))
			sameAnswer(t, what+" by index", told[fmt.Sprint(what, ", ", i, " by index")], plainByIndex(zoo(), q))
		}
	}
	for _, out := range told {
		for _, row := range out.Rows {
			clear(row)
		}
		clear(out.Rows)
	}
	same(t, "the database", tellDb(d), tellDb(zoo()))
	for what, q := range asks {
		sameAnswer(t, what+", again", impl.QueryRun(d, q), plainAnswer(zoo(), q))
	}
}

// What is asked again is answered again in the same way, though groups stand in a map.
func TestAnswersAreAlike(t *testing.T) {
	d := zoo()
	for what, q := range byName(askings(t)) {
		run, found := impl.QueryRun(d, q), impl.QueryByIndex(d, q)
		for range 20 {
			sameAnswer(t, what, impl.QueryRun(d, q), run)
			sameAnswer(t, what, impl.QueryByIndex(d, q), found)
		}
	}
}
