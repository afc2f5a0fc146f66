package tests

import (
	"fmt"
	"maps"
	"math"
	"math/rand"
	"regexp"
	"slices"
	"strconv"
	"strings"
	"testing"

	"loop.example/g00271/impl"
)

// numEnd is the least number of nineteen digits; mostQuoted is how many bytes a text in a query has at the most.
const (
	numEnd     = 1_000_000_000_000_000_000
	mostQuoted = 40
)

func itemsOf(items ...impl.Item) []impl.Item { return items }

func termsOf(terms ...impl.Term) []impl.Term { return terms }

func itemOf(agg int64, column string) impl.Item { return impl.Item{Agg: agg, Column: column} }

func termOf(column string, op string, v impl.Value) impl.Term {
	return impl.Term{Column: column, Op: op, Value: v}
}

// plainQuery asks for all of a column, and countQuery how many rows there are.
func plainQuery() impl.Query {
	return impl.Query{Items: itemsOf(itemOf(impl.AggNone, "pets.id")), Table: "pets", Limit: -1}
}

func countQuery() impl.Query {
	return impl.Query{Items: itemsOf(itemOf(impl.AggCount, "")), Table: "pets", Limit: -1}
}

// joinQuery is plainQuery of two tables.
func joinQuery() impl.Query {
	q := plainQuery()
	q.Join, q.Left, q.Right = "owners", "pets.owner", "owners.id"
	return q
}

// askQuery is plainQuery with these terms.
func askQuery(terms ...impl.Term) impl.Query {
	q := plainQuery()
	q.Where = terms
	return q
}

// changedQuery is a query with something done to it.
func changedQuery(q impl.Query, do func(*impl.Query)) impl.Query {
	q = cloneQuery(q)
	do(&q)
	return q
}

func cloneQuery(q impl.Query) impl.Query {
	q.Items, q.Where = slices.Clone(q.Items), slices.Clone(q.Where)
	return q
}

// tellQuery tells all that a query has; an empty list and none are told alike.
func tellQuery(q impl.Query) string {
	return fmt.Sprintf("%#v from %q join %q %q %q where %#v group %q order %q %v limit %d",
		append([]impl.Item{}, q.Items...), q.Table, q.Join, q.Left, q.Right, append([]impl.Term{}, q.Where...), q.Group, q.Order, q.Down, q.Limit)
}

// sameQuery looks at all that is told.
func sameQuery(t *testing.T, what string, got impl.QueryOut, want impl.QueryOut) {
	t.Helper()
	if got.Code != want.Code || got.At != want.At || tellQuery(got.Query) != tellQuery(want.Query) {
		t.Errorf("%.300q: got code %d, At %d, %s; want code %d, At %d, %s", what, got.Code, got.At, tellQuery(got.Query), want.Code, want.At, tellQuery(want.Query))
	}
}

func asked(q impl.Query) impl.QueryOut { return impl.QueryOut{Query: q} }

func syntaxAt(at int) impl.QueryOut { return impl.QueryOut{At: int64(at), Code: impl.ErrSyntax} }

// question is a right query, and its text.
type question struct {
	query impl.Query
	text  string
}

func rightQueries() map[string]question {
	right := ordinaryQueries()
	maps.Copy(right, keywordQueries())
	maps.Copy(right, valueQueries())
	right["as much as may be"] = greatestQuery()
	right["as much as may be, of groups"] = greatestGroups()
	return right
}

func ordinaryQueries() map[string]question {
	plain, count, join := plainQuery(), countQuery(), joinQuery()
	right := map[string]question{
		"plain": {plain, "select pets.id from pets"},
		"count": {count, "select count from pets"},
		"join":  {join, "select pets.id from pets join owners on pets.owner = owners.id"},
		"many items": {
			changedQuery(plain, func(q *impl.Query) { q.Items = append(q.Items, itemOf(0, "pets.name"), itemOf(0, "pets.id")) }),
			"select pets.id , pets.name , pets.id from pets",
		},
		"each Agg": {
			changedQuery(count, func(q *impl.Query) {
				q.Items = itemsOf(itemOf(impl.AggMax, "a.b"), itemOf(impl.AggCount, ""), itemOf(impl.AggMin, "a.b"), itemOf(impl.AggSum, "a.c"))
			}),
			"select max a.b , count , min a.b , sum a.c from pets",
		},
		"groups": {
			changedQuery(count, func(q *impl.Query) {
				q.Items = itemsOf(itemOf(0, "pets.age"), itemOf(impl.AggCount, ""), itemOf(0, "pets.age"))
				q.Group, q.Order, q.Down, q.Limit = "pets.age", "pets.age", true, 3
			}),
			"select pets.age , count , pets.age from pets group by pets.age order by pets.age desc limit 3",
		},
		"groups without an Agg":      {changedQuery(plain, func(q *impl.Query) { q.Group = "pets.id" }), "select pets.id from pets group by pets.id"},
		"groups, not told of":        {changedQuery(count, func(q *impl.Query) { q.Group = "pets.id" }), "select count from pets group by pets.id"},
		"groups in order":            {changedQuery(count, func(q *impl.Query) { q.Group, q.Order = "x.y", "x.y" }), "select count from pets group by x.y order by x.y"},
		"ordered":                    {changedQuery(plain, func(q *impl.Query) { q.Order = "pets.age" }), "select pets.id from pets order by pets.age"},
		"ordered down":               {changedQuery(plain, func(q *impl.Query) { q.Order, q.Down = "pets.age", true }), "select pets.id from pets order by pets.age desc"},
		"of other tables' columns":   {changedQuery(plain, func(q *impl.Query) { q.Table = "cats" }), "select pets.id from cats"},
		"joined by one column":       {changedQuery(join, func(q *impl.Query) { q.Left, q.Right = "c.d", "c.d" }), "select pets.id from pets join owners on c.d = c.d"},
		"no lists but that of Items": {changedQuery(plain, func(q *impl.Query) { q.Where = termsOf() }), "select pets.id from pets"},
		"a name of one byte":         {changedQuery(count, func(q *impl.Query) { q.Table = "p" }), "select count from p"},
		"a name as long as may be":   {changedQuery(count, func(q *impl.Query) { q.Table = longName(1) }), "select count from " + longName(1)},
		"a column of the longest":    {changedQuery(plain, func(q *impl.Query) { q.Order = longName(1) + "." + longName(2) }), "select pets.id from pets order by " + longName(1) + "." + longName(2)},
		"a join, terms, down, limit": {changedQuery(join, func(q *impl.Query) {
			q.Where, q.Order, q.Down, q.Limit = termsOf(termOf("a.b", "<", intOf(1))), "c.d", true, 7
		}), "select pets.id from pets join owners on pets.owner = owners.id where a.b < 1 order by c.d desc limit 7"},
		"a join, whose name is alike": {changedQuery(join, func(q *impl.Query) { q.Join = "pets2" }), "select pets.id from pets join pets2 on pets.owner = owners.id"},
	}
	for _, limit := range []int64{0, 1, 9, 10, 999, 1000} {
		n := strconv.FormatInt(limit, 10)
		right["limit "+n] = question{changedQuery(plain, func(q *impl.Query) { q.Limit = limit }), "select pets.id from pets limit " + n}
	}
	return right
}

// keywords are all words that stand for themselves in a query, and are names.
func keywords() []string {
	return []string{"select", "count", "sum", "min", "max", "from", "join", "on", "where", "and", "is", "true", "false", "null", "group", "by", "order", "desc", "limit"}
}

// keywordQueries have keywords in the places of names, where they are names.
func keywordQueries() map[string]question {
	right := map[string]question{}
	for _, word := range keywords() {
		column := word + "." + word
		q := changedQuery(joinQuery(), func(q *impl.Query) {
			q.Items = itemsOf(itemOf(0, column))
			q.Table, q.Left, q.Right, q.Group, q.Order = word, column, column, column, column
			q.Where = termsOf(termOf(column, "is", null()), termOf(column, "=", boolOf(1)))
		})
		text := fmt.Sprintf("select %[2]s from %[1]s join owners on %[2]s = %[2]s where %[2]s is null and %[2]s = true group by %[2]s order by %[2]s", word, column)
		right["table "+word] = question{q, text}
		right["join "+word] = question{changedQuery(q, func(q *impl.Query) { q.Table, q.Join = "owners", word }), strings.Replace(text, word+" join owners", "owners join "+word, 1)}
		right["last word "+word] = question{changedQuery(countQuery(), func(q *impl.Query) { q.Table = word }), "select count from " + word}
	}
	return right
}

// comparisons are the Ops but that which takes a null.
func comparisons() []string { return []string{"=", "!=", "<", "<=", ">", ">="} }

// wordedValues are the values that a term may have, by their words.
func wordedValues() map[string]impl.Value {
	values := map[string]impl.Value{"true": boolOf(1), "false": boolOf(0), "''": textOf("")}
	for _, n := range []int64{0, 1, -1, 7, -7, 10, -10, 100, 1 << 32, -1 << 32, numEnd / 10, numEnd - 1, 1 - numEnd} {
		values[strconv.FormatInt(n, 10)] = intOf(n)
	}
	for _, text := range []string{"a", "z", "0", "9", "_", "-", "--", "-0", "7", "007", "true", "null", "is", "rex-2_x", strings.Repeat("-", mostQuoted), strings.Repeat("z", mostQuoted-1)} {
		values["'"+text+"'"] = textOf(text)
	}
	return values
}

func valueQueries() map[string]question {
	right := map[string]question{"null": {askQuery(termOf("a.b", "is", null())), "select pets.id from pets where a.b is null"}}
	for word, v := range wordedValues() {
		for _, op := range comparisons() {
			right["value: "+op+" "+word] = question{askQuery(termOf("a.b", op, v)), "select pets.id from pets where a.b " + op + " " + word}
		}
	}
	return right
}

// greatestQuery has as many things as may be, each as long as may be; greatestGroups is one of groups, of more words.
func greatestQuery() question {
	name, column, text := longName(0), longName(0)+"."+longName(1), strings.Repeat("x", mostQuoted)
	q := impl.Query{Table: name, Join: longName(1), Left: column, Right: column, Order: column, Down: true, Limit: 1000}
	var items, terms []string
	for i := range impl.MaxColumns {
		c := longName(9-i) + "." + longName(i)
		q.Items = append(q.Items, itemOf(0, c))
		items = append(items, c)
	}
	for range impl.MaxTerms {
		q.Where = append(q.Where, termOf(column, ">=", textOf(text)))
		terms = append(terms, column+" >= '"+text+"'")
	}
	return question{q, fmt.Sprintf("select %s from %s join %s on %s = %s where %s order by %s desc limit 1000", strings.Join(items, " , "), name, longName(1), column, column, strings.Join(terms, " and "), column)}
}

func greatestGroups() question {
	g := greatestQuery()
	column := g.query.Order
	sum := itemOf(impl.AggSum, column)
	q := changedQuery(g.query, func(q *impl.Query) { q.Items, q.Group = slices.Repeat(itemsOf(sum), impl.MaxColumns), column })
	_, behind, _ := strings.Cut(g.text, " from ")
	text := "select " + strings.Join(slices.Repeat([]string{"sum " + column}, impl.MaxColumns), " , ") + " from " + behind
	return question{q, strings.Replace(text, " order by ", " group by "+column+" order by ", 1)}
}

// wrongColumns are no columns' names.
func wrongColumns() []string {
	l := []string{"", ".", "a", "a.", ".b", "a..b", "a.b.", ".a.b", "a.b.c", "a,b", "a b", "a. b", "a .b", "a.b ", " a.b", "a.b\x00", "a.*", "*", "count", "a.b\n", "'a.b'", "1.5", strings.Repeat("a.b", tooLong)}
	for _, name := range wrongNames() {
		l = append(l, name+".b", "a."+name)
	}
	return l
}

func wrongOperators() []string {
	return []string{"", "==", "<>", "=<", "=>", "!", "not", "IS", "Is", "isnt", "= ", " =", "<\x00", "=is", "null", "in", "like", ">>", "\xff"}
}

// wrongQuoted are texts that stand in no query.
func wrongQuoted() []string {
	l := []string{"A", "a b", " ", "a.b", "a'b", "'", "''", "'a'", "é", "a\x00", "\xff", "a,b", "a\n", strings.Repeat("a", mostQuoted+1), strings.Repeat("a", impl.MaxText), strings.Repeat("a", impl.MaxText+1)}
	for b := range 256 {
		if c := string([]byte{byte(b)}); !strings.Contains("abcdefghijklmnopqrstuvwxyz0123456789_-", c) {
			l = append(l, c, "x"+c+"y")
		}
	}
	return l
}

// wrongQueries are not right, each for one reason, which its name tells.
func wrongQueries() map[string]impl.Query {
	wrong := map[string]impl.Query{"zero": {}}
	maps.Copy(wrong, wrongParts())
	maps.Copy(wrong, wrongGroups())
	maps.Copy(wrong, wrongTerms())
	return wrong
}

func wrongParts() map[string]impl.Query {
	plain, count, join := plainQuery(), countQuery(), joinQuery()
	wrong := map[string]impl.Query{
		"no Items":             changedQuery(plain, func(q *impl.Query) { q.Items = nil }),
		"an empty list":        changedQuery(plain, func(q *impl.Query) { q.Items = itemsOf() }),
		"an Item too many":     changedQuery(plain, func(q *impl.Query) { q.Items = slices.Repeat(q.Items, impl.MaxColumns+1) }),
		"Items beyond a list":  changedQuery(plain, func(q *impl.Query) { q.Items = slices.Repeat(q.Items, impl.MaxList+1) }),
		"a Column of count":    changedQuery(count, func(q *impl.Query) { q.Items[0].Column = "pets.id" }),
		"Join is Table":        changedQuery(join, func(q *impl.Query) { q.Join = "pets" }),
		"Left without Join":    changedQuery(plain, func(q *impl.Query) { q.Left = "pets.id" }),
		"Right without Join":   changedQuery(plain, func(q *impl.Query) { q.Right = "pets.id" }),
		"both without Join":    changedQuery(join, func(q *impl.Query) { q.Join = "" }),
		"Join without both":    changedQuery(plain, func(q *impl.Query) { q.Join = "owners" }),
		"Join without Left":    changedQuery(join, func(q *impl.Query) { q.Left = "" }),
		"Join without Right":   changedQuery(join, func(q *impl.Query) { q.Right = "" }),
		"Down without Order":   changedQuery(plain, func(q *impl.Query) { q.Down = true }),
		"Down of groups alone": changedQuery(count, func(q *impl.Query) { q.Group, q.Down = "a.b", true }),
	}
	for _, agg := range []int64{-1, 5, 6, 255, 256, 257, 1 << 32, math.MaxInt64, math.MinInt64} {
		wrong["Agg "+strconv.FormatInt(agg, 10)] = changedQuery(plain, func(q *impl.Query) { q.Items[0].Agg = agg })
		wrong["Agg without a Column "+strconv.FormatInt(agg, 10)] = changedQuery(count, func(q *impl.Query) { q.Items[0].Agg = agg })
		wrong["a second Agg "+strconv.FormatInt(agg, 10)] = changedQuery(count, func(q *impl.Query) { q.Items = append(q.Items, itemOf(agg, "a.b")) })
	}
	for _, limit := range []int64{-2, -3, 1001, 1 << 32, -1 << 32, numEnd, math.MaxInt64, math.MinInt64} {
		wrong["Limit "+strconv.FormatInt(limit, 10)] = changedQuery(plain, func(q *impl.Query) { q.Limit = limit })
	}
	for _, name := range append(wrongNames(), "a.b", strings.Repeat("a", tooLong)) {
		wrong["Table "+name] = changedQuery(plain, func(q *impl.Query) { q.Table = name })
		if name != "" {
			wrong["Join "+name] = changedQuery(join, func(q *impl.Query) { q.Join = name })
		}
	}
	for _, column := range wrongColumns() {
		wrong["an Item "+column] = changedQuery(plain, func(q *impl.Query) { q.Items[0].Column = column })
		wrong["a second Item "+column] = changedQuery(plain, func(q *impl.Query) { q.Items = append(q.Items, itemOf(0, column)) })
		for _, agg := range []int64{impl.AggSum, impl.AggMin, impl.AggMax} {
			wrong[fmt.Sprint("Agg ", agg, " of ", column)] = changedQuery(count, func(q *impl.Query) { q.Items[0] = itemOf(agg, column) })
		}
		wrong["Left "+column] = changedQuery(join, func(q *impl.Query) { q.Left = column })
		wrong["Right "+column] = changedQuery(join, func(q *impl.Query) { q.Right = column })
		if column != "" {
			wrong["Group "+column] = changedQuery(count, func(q *impl.Query) { q.Group = column })
			wrong["Group and Item "+column] = changedQuery(plain, func(q *impl.Query) { q.Group, q.Items[0].Column = column, column })
			wrong["Order "+column] = changedQuery(plain, func(q *impl.Query) { q.Order = column })
			wrong["Group and Order "+column] = changedQuery(count, func(q *impl.Query) { q.Group, q.Order = column, column })
		}
	}
	return wrong
}

// wrongGroups tell of groups what their rows may not have alike.
func wrongGroups() map[string]impl.Query {
	plain, count := plainQuery(), countQuery()
	wrong := map[string]impl.Query{
		"an Item that is not the Group":    changedQuery(plain, func(q *impl.Query) { q.Group = "pets.age" }),
		"the last Item is not the Group":   changedQuery(plain, func(q *impl.Query) { q.Items, q.Group = append(q.Items, itemOf(0, "pets.age")), "pets.id" }),
		"the Order is not the Group":       changedQuery(plain, func(q *impl.Query) { q.Group, q.Order = "pets.id", "pets.age" }),
		"the Order is of count":            changedQuery(count, func(q *impl.Query) { q.Order = "pets.id" }),
		"the Order of counts is not":       changedQuery(count, func(q *impl.Query) { q.Group, q.Order = "pets.id", "pets.name" }),
		"alike up to the point":            changedQuery(plain, func(q *impl.Query) { q.Group = "pets.i" }),
		"alike from the point on":          changedQuery(plain, func(q *impl.Query) { q.Group = "cats.id" }),
		"an Agg of the Order":              changedQuery(count, func(q *impl.Query) { q.Items[0], q.Order = itemOf(impl.AggMin, "a.b"), "a.b" }),
		"an Agg of the Order, and a Group": changedQuery(count, func(q *impl.Query) { q.Items[0], q.Group, q.Order = itemOf(impl.AggMin, "a.b"), "a.c", "a.b" }),
	}
	for agg := int64(impl.AggCount); agg <= impl.AggMax; agg++ {
		item := itemOf(agg, "a.b")
		if agg == impl.AggCount {
			item.Column = ""
		}
		wrong[fmt.Sprint("an Item beside Agg ", agg)] = changedQuery(plain, func(q *impl.Query) { q.Items = append(q.Items, item) })
		wrong[fmt.Sprint("an Item behind Agg ", agg)] = changedQuery(plain, func(q *impl.Query) { q.Items = itemsOf(item, q.Items[0]) })
		wrong[fmt.Sprint("an Order of Agg ", agg)] = changedQuery(plain, func(q *impl.Query) { q.Items, q.Order = itemsOf(item), "a.b" })
	}
	return wrong
}

func wrongTerms() map[string]impl.Query {
	good := termOf("a.b", "=", intOf(1))
	wrong := map[string]impl.Query{
		"a Term too many":     askQuery(slices.Repeat(termsOf(good), impl.MaxTerms+1)...),
		"Terms beyond a list": askQuery(slices.Repeat(termsOf(good), impl.MaxList+1)...),
		"the zero Term":       askQuery(impl.Term{}),
	}
	add := func(what string, term impl.Term) {
		wrong[what] = askQuery(term)
		wrong["behind another: "+what] = askQuery(good, term)
		wrong["the last of many: "+what] = askQuery(append(slices.Repeat(termsOf(good), impl.MaxTerms-1), term)...)
	}
	for _, column := range wrongColumns() {
		add("Term of "+column, termOf(column, "=", intOf(1)))
		add("null of "+column, termOf(column, "is", null()))
	}
	for _, op := range wrongOperators() {
		add("Op "+op, termOf("a.b", op, intOf(1)))
		add("null by Op "+op, termOf("a.b", op, null()))
	}
	for _, v := range wordedValues() {
		add("is "+brief(v), termOf("a.b", "is", v))
	}
	for _, op := range comparisons() {
		add("null by "+op, termOf("a.b", op, null()))
		for _, n := range []int64{numEnd, -numEnd, numEnd + 1, -numEnd - 1, math.MaxInt64, math.MinInt64} {
			add("number by "+op+" "+strconv.FormatInt(n, 10), termOf("a.b", op, intOf(n)))
		}
		for _, text := range wrongQuoted() {
			add("text by "+op+" "+text, termOf("a.b", op, textOf(text)))
		}
		for i, v := range wrongValues() {
			add("value by "+op+" "+strconv.Itoa(i), termOf("a.b", op, v))
			add("value by is "+strconv.Itoa(i), termOf("a.b", "is", v))
		}
	}
	return wrong
}

// What is right, and its text.

func TestQueryConstants(t *testing.T) {
	same(t, "words and terms", [2]int64{impl.MaxWords, impl.MaxTerms}, [2]int64{200, 20})
	same(t, "Aggs", [5]int64{impl.AggNone, impl.AggCount, impl.AggSum, impl.AggMin, impl.AggMax}, [5]int64{0, 1, 2, 3, 4})
}

func TestQueryRight(t *testing.T) {
	for what, x := range byName(rightQueries()) {
		same(t, what, impl.QueryRight(x.query), true)
	}
	for why, q := range byName(wrongQueries()) {
		same(t, why, impl.QueryRight(q), false)
	}
}

func TestQueryText(t *testing.T) {
	for what, x := range byName(rightQueries()) {
		same(t, what, impl.QueryText(x.query), x.text)
	}
	for why, q := range byName(wrongQueries()) {
		same(t, why, impl.QueryText(q), "")
	}
}

// Promise 17.
func TestQueriesComeBack(t *testing.T) {
	for what, x := range byName(rightQueries()) {
		sameQuery(t, what, impl.QueryRead(x.text), asked(x.query))
		sameQuery(t, what+", from its own text", impl.QueryRead(impl.QueryText(x.query)), asked(x.query))
	}
}

// Words that stand where they do, of a query that would not be right.
func TestQueryReadForm(t *testing.T) {
	term := "select a.b from a where a.b = 1"
	for _, text := range []string{
		"select a.b , count from a", "select count , a.b from a", "select a.b , sum a.b from a", "select min a.b , a.b , max a.b from a",
		"select a.b from a group by a.c", "select a.b , a.c from a group by a.b", "select count from a order by a.b", "select max a.b from a order by a.b",
		"select count from a group by a.b order by a.c", "select a.b from a group by a.b order by a.c desc", "select a.b , count from a group by b.b",
		"select a.b from a join a on a.b = a.b", "select count from join join join on a.b = a.b",
		"select a.b" + strings.Repeat(" , a.b", impl.MaxColumns) + " from a", "select count" + strings.Repeat(" , count", impl.MaxColumns) + " from a",
		term + strings.Repeat(" and a.b = 1", impl.MaxTerms), "select a.b from a limit 1001", "select a.b from a limit 999999999999999999",
		"select a.b from a where a.b = null", "select a.b from a where a.b != null", "select a.b from a where a.b is 1", "select a.b from a where a.b is ''",
		"select a.b from a where a.b is 'null'", "select a.b from a where a.b is true", term + " and a.b <= null", term + " and a.b is -1",
		"select a.b from a where a.b = '" + strings.Repeat("a", mostQuoted+1) + "'", "select a.b from a where a.b = '" + strings.Repeat("a", impl.MaxText+1) + "'",
	} {
		sameQuery(t, text, impl.QueryRead(text), impl.QueryOut{Code: impl.ErrForm})
	}
	for _, quoted := range wrongQuoted() {
		if !strings.Contains(quoted, " ") {
			text := "select a.b from a where a.b = '" + quoted + "'"
			sameQuery(t, text, impl.QueryRead(text), impl.QueryOut{Code: impl.ErrForm})
		}
	}
}

// nowhere are words that can stand at no place of a query.
func nowhere() []string {
	l := []string{
		"?", "*", "A", "SELECT", "From", "select,", ",,", "count,", "count(", "a.b,", ",a.b", "(", ";", ".", "a.", ".a", "a..b", "a.b.c", "A.b", "a.B", "9a", "_a", "a-b", "9a.b", "a._b",
		"-", "--1", "+1", "01", "00", "-0", "-01", "1.5", "1e3", "1_000", "0x1", "1-", "\xff", "\x00", "é", "a\x00", "=1", "==", "<>", "=<", "=>", "!", "a.b=1", "a=b",
		"'", "'a", "a'", "'a'b", "\"a\"", "`a`", "’a’", "\t", "\n", "\v", "\r", "\u00a0", "\u2003", "select\t", "\nselect", "a.b\t=", "a.b\n",
		strings.Repeat("a", 21), strings.Repeat("a", 21) + ".b", "a." + strings.Repeat("a", 21), strings.Repeat("x", 400),
		"1000000000000000000", "-1000000000000000000", "9223372036854775807", "-9223372036854775808", "9223372036854775808", "18446744073709551616", "0000000000000000001", strings.Repeat("9", 300),
	}
	for b := 1; b < 256; b++ {
		if c := string([]byte{byte(b)}); !strings.Contains(" ,=<>abcdefghijklmnopqrstuvwxyz0123456789", c) {
			l = append(l, c)
		}
	}
	return l
}

// The first word that cannot stand there is told, wherever it stands.
func TestQueryReadSyntax(t *testing.T) {
	for what, x := range byName(rightQueries()) {
		if strings.HasPrefix(what, "value: ") {
			continue
		}
		words := strings.Split(x.text, " ")
		for i := range len(words) + 1 {
			for _, bad := range []string{"?", "a.", "'a", "01"} {
				put := strings.Join(slices.Insert(slices.Clone(words), i, bad), " ")
				sameQuery(t, put, impl.QueryRead(put), syntaxAt(i))
				first := strings.Join(append(slices.Clone(words[:i]), bad, bad), " ")
				sameQuery(t, first, impl.QueryRead(first), syntaxAt(i))
			}
		}
	}
	words := strings.Split("select sum a.b , a.c from a join b on a.b = b.b where a.b is null and b.b >= 7 group by a.c order by a.c desc limit 5", " ")
	for _, bad := range nowhere() {
		for i := range words {
			text := strings.Join(words[:i], " ") + " " + bad + " " + strings.Join(words[i+1:], " ")
			sameQuery(t, text, impl.QueryRead(text), syntaxAt(i))
		}
		text := strings.Join(words, " ") + " " + bad
		sameQuery(t, text, impl.QueryRead(text), syntaxAt(len(words)))
	}
}

// Each text that stands here is refused at the word that stands behind the bar; a bar at its end says that it ends too early.
func TestQueryReadSyntaxAt(t *testing.T) {
	for _, barred := range []string{
		"|", "select |", "select a.b |", "select count |", "select sum |", "select sum a.b |", "select a.b , |", "select count , |", "select a.b from |",
		"select a.b from a join |", "select a.b from a join b |", "select a.b from a join b on |", "select a.b from a join b on a.b |", "select a.b from a join b on a.b = |",
		"select a.b from a where |", "select a.b from a where a.b |", "select a.b from a where a.b = |", "select a.b from a where a.b = 1 and |",
		"select a.b from a where a.b = 1 and a.b |", "select a.b from a where a.b = 1 and a.b is |", "select a.b from a group |", "select a.b from a group by |",
		"select a.b from a order |", "select a.b from a order by |", "select a.b from a limit |",
		"|from a", "|a.b", "|count", "|, a.b from a", "|selec a.b from a", "select |from a", "select |, a.b from a", "select |a from a", "select |'a' from a", "select |1 from a", "select |null from a",
		"select |select from a", "select a.b |a.c from a", "select a.b , |, a.c from a", "select a.b , |from a", "select a.b |where a.b = 1", "select a.b , |select a.b from a",
		"select count |a.b from a", "select count |count from a", "select sum |from a", "select sum |, count from a", "select sum |count from a", "select sum |sum a.b from a", "select max a.b |a.b from a",
		"select count from |a.b", "select count from |, a", "select count from |7", "select count from |'a'", "select count from |=", "select count from a |b", "select count from a |, b", "select count from a |from b", "select count from a |a",
		"select count from a |on a.b = a.c", "select count from a |and a.b = 1", "select count from a |by a.b", "select count from a |desc", "select count from a |5", "select count from a |select count from a",
		"select count from a join |a.b on a.b = a.b", "select count from a join |= on a.b = a.b", "select count from a join b |a.b = a.b", "select count from a join b |where a.b = 1", "select count from a join b on |b = a.b", "select count from a join b on |= a.b",
		"select count from a join b on a.b |a.b", "select count from a join b on a.b |!= a.b", "select count from a join b on a.b |< a.b", "select count from a join b on a.b |is a.b", "select count from a join b on a.b = |b", "select count from a join b on a.b = |1", "select count from a join b on a.b = |null",
		"select count from a join b on a.b = b.b |and a.c = b.c", "select count from a join b on a.b = b.b |join c on a.c = c.c", "select count from a join b on a.b = b.b |, c", "select count from a join b on a.b = b.b |b.b",
		"select count from a where |b = 1", "select count from a where |1 = a.b", "select count from a where |group by a.b", "select count from a where a.b |a.b", "select count from a where a.b |1", "select count from a where a.b |null", "select count from a where a.b |and a.b = 1",
		"select count from a where a.b = |a.b", "select count from a where a.b = |b", "select count from a where a.b = |= 1", "select count from a where a.b = |and a.b = 1", "select count from a where a.b = |'a b'", "select count from a where a.b = |' '", "select count from a where a.b is |not null", "select count from a where a.b = |NULL",
		"select count from a where a.b = |True", "select count from a where a.b = |t", "select count from a where a.b = |is", "select count from a where a.b = |count", "select count from a where a.b = '' |''", "select count from a where a.b = 1 |, a.b = 2", "select count from a where a.b = 1 |or a.b = 2", "select count from a where a.b = 1 |a.b = 2",
		"select count from a where a.b = 1 and |and a.b = 2", "select count from a where a.b = 1 and |where a.b = 2", "select count from a where a.b = 1 |where a.b = 2", "select count from a where a.b = 1 |join b on a.b = b.b", "select count from a where a.b = 1 |by a.b",
		"select count from a where a.b = |-0", "select count from a where a.b = |00", "select count from a where a.b = |-01", "select count from a where a.b = |+1", "select count from a where a.b = |1000000000000000000", "select count from a where a.b = |-1000000000000000000",
		"select count from a group |a.b", "select count from a group by |b", "select count from a group by |count", "select count from a group by |by a.b", "select count from a group by a.b |, a.c", "select count from a group by a.b |desc", "select count from a group by a.b |group by a.b", "select count from a group by a.b |where a.b = 1", "select count from a group by a.b |join b on a.b = b.b", "select count from a group by a.b |having count",
		"select a.b from a order |a.b", "select a.b from a order by |b", "select a.b from a order by |desc", "select a.b from a order by |7", "select a.b from a order by a.b |asc", "select a.b from a order by a.b |, a.c", "select a.b from a order by a.b |order by a.b", "select a.b from a order by a.b |group by a.b", "select a.b from a order by a.b |where a.b = 1", "select a.b from a order by a.b desc |desc", "select a.b from a order by a.b desc |order by a.b", "select a.b from a order by a.b desc |group by a.b",
		"select a.b from a limit |-1", "select a.b from a limit |-5", "select a.b from a limit |-0", "select a.b from a limit |00", "select a.b from a limit |01", "select a.b from a limit |+1", "select a.b from a limit |1.0", "select a.b from a limit |ten", "select a.b from a limit |'1'", "select a.b from a limit |null", "select a.b from a limit |true", "select a.b from a limit |a.b", "select a.b from a limit |1000000000000000000", "select a.b from a limit |9223372036854775808",
		"select a.b from a limit 5 |6", "select a.b from a limit 5 |limit 6", "select a.b from a limit 5 |desc", "select a.b from a limit 5 |order by a.b", "select a.b from a limit 5 |where a.b = 1", "select a.b from a limit 5 |;",
	} {
		ahead, behind, _ := strings.Cut(barred, "|")
		text := ahead + behind
		sameQuery(t, text, impl.QueryRead(text), syntaxAt(len(strings.Fields(ahead))))
	}
}

// Words are what stands between blanks, and blanks alone.
func TestQueryReadBlanks(t *testing.T) {
	for what, x := range byName(rightQueries()) {
		for i, blanks := range []string{"  ", "   ", strings.Repeat(" ", 70)} {
			text := strings.Repeat(" ", i) + strings.ReplaceAll(x.text, " ", blanks) + strings.Repeat(" ", 2*i)
			sameQuery(t, what, impl.QueryRead(text), asked(x.query))
		}
		sameQuery(t, what+", with a blank ahead", impl.QueryRead(" "+x.text), asked(x.query))
		sameQuery(t, what+", with a blank behind", impl.QueryRead(x.text+" "), asked(x.query))
	}
	for _, text := range []string{"", " ", "    ", strings.Repeat(" ", impl.MaxBytes)} {
		sameQuery(t, "blanks alone", impl.QueryRead(text), syntaxAt(0))
	}
	for _, no := range []string{"\t", "\n", "\r", "\v", "\f", "\x00", "\u0085", "\u00a0", "\u2003", "\u3000", ","} {
		sameQuery(t, "all by "+no, impl.QueryRead(strings.ReplaceAll("select count from a", " ", no)), syntaxAt(0))
		sameQuery(t, "ahead "+no, impl.QueryRead(no+"select count from a"), syntaxAt(0))
		sameQuery(t, "ahead, by itself "+no, impl.QueryRead(no+" select count from a"), syntaxAt(0))
		sameQuery(t, "behind "+no, impl.QueryRead("select count from a"+no), syntaxAt(3))
		sameQuery(t, "behind, by itself "+no, impl.QueryRead("select count from a "+no), syntaxAt(4))
		sameQuery(t, "among "+no, impl.QueryRead("select   count"+no+"from  a"), syntaxAt(1))
	}
	sameQuery(t, "numbers are those of words", impl.QueryRead("   select    count  from    a     b   "), syntaxAt(4))
	sameQuery(t, "how many words there are", impl.QueryRead("   select    count    from     "), syntaxAt(3))
}

// Which fault is told, of more than one: the text's size, the number of words, a word that cannot stand there, what is not right.
func TestQueryReadOrderOfFaults(t *testing.T) {
	form, size := impl.QueryOut{Code: impl.ErrForm}, impl.QueryOut{Code: impl.ErrSize}
	good := "select count from pets"
	blanks := strings.Repeat(" ", impl.MaxBytes-len(good))
	sameQuery(t, "a text as long as may be", impl.QueryRead(good+blanks), asked(countQuery()))
	sameQuery(t, "blanks ahead", impl.QueryRead(blanks+good), asked(countQuery()))
	for _, text := range []string{good + blanks + " ", blanks + good + " ", strings.Repeat("x", tooLong), strings.Repeat(" ", tooLong), strings.Repeat("x ", impl.MaxBytes), blanks + good + "select a.b , count from a"} {
		sameQuery(t, "a text too long", impl.QueryRead(text), size)
	}
	sameQuery(t, "a word as long as may be", impl.QueryRead(strings.Repeat("x", impl.MaxBytes)), syntaxAt(0))
	for _, word := range []string{"x", "from", "?", ",", "1"} {
		sameQuery(t, "as many words as may be", impl.QueryRead(strings.Repeat(word+" ", impl.MaxWords)), syntaxAt(0))
		sameQuery(t, "a word too many", impl.QueryRead(strings.Repeat(word+" ", impl.MaxWords+1)), form)
		sameQuery(t, "a word too many, without a blank behind", impl.QueryRead(strings.Repeat(word+" ", impl.MaxWords)+word), form)
	}
	sameQuery(t, "as many words as a text may have", impl.QueryRead(strings.Repeat("x ", impl.MaxBytes/2)), form)
	// It has 96 Items, and 195 words.
	many := "select" + strings.Repeat(" count ,", 95) + " count from pets where"
	sameQuery(t, "where it ends", impl.QueryRead(many), syntaxAt(195))
	sameQuery(t, "as many words as may be, not right", impl.QueryRead(many+" a.b is null limit 5"), form)
	sameQuery(t, "the last one cannot stand there", impl.QueryRead(many+" a.b is null limit x"), syntaxAt(impl.MaxWords-1))
	sameQuery(t, "as many as may be, and it ends too early", impl.QueryRead(many+" a.b is null and a.b"), syntaxAt(impl.MaxWords))
	sameQuery(t, "the one behind cannot stand there", impl.QueryRead(many+" a.b is null limit 5 ?"), form)
	sameQuery(t, "one of all cannot stand there", impl.QueryRead(many+" ? is null limit 5 ?"), form)
	sameQuery(t, "not right ahead of a word that cannot stand there", impl.QueryRead("select a.b , count from a order by b"), syntaxAt(8))
	sameQuery(t, "not right, and it ends too early", impl.QueryRead("select a.b , count from a join a on a.b ="), syntaxAt(11))
	sameQuery(t, "not right, twice", impl.QueryRead("select a.b , count from a limit 5000"), form)
	sameQuery(t, "two words that cannot stand there", impl.QueryRead("select a.b from A where B"), syntaxAt(3))
}

// The plain functions do what the document says in another way than the program: words are told by patterns, and a table says which one may stand behind which.

const (
	namePattern   = `[a-z][a-z0-9_]{0,19}`
	columnPattern = namePattern + `\.` + namePattern
	digitsPattern = `0|[1-9][0-9]{0,17}`
)

// patterns are those of the kinds of words, each called by a word that is itself of none.
var patterns = map[string]*regexp.Regexp{
	"NAME":   wholly(namePattern),
	"COLUMN": wholly(columnPattern),
	"OP":     wholly(`=|!=|<|<=|>|>=|is`),
	"VALUE":  wholly(`0|-?[1-9][0-9]{0,17}|'.*'|true|false|null`),
	"DIGITS": wholly(digitsPattern),
	"QUOTED": wholly(`[a-z0-9_-]{0,40}`),
}

func wholly(pattern string) *regexp.Regexp { return regexp.MustCompile(`(?s)\A(?:` + pattern + `)\z`) }

// plainSteps say, of each place, which word may stand there, and the place behind it. A place whose name ends with a point may be that of the end.
const plainSteps = `
start select items | items count item | items sum of | items min of | items max of | items COLUMN item | of COLUMN item | item , items | item from table
table NAME all. | all. join join | join NAME on | on on left | left COLUMN like | like = right | right COLUMN joined.
all. where term | joined. where term | term COLUMN op | op OP value | value VALUE asked. | asked. and term
all. group group | joined. group group | asked. group group | group by grouping | grouping COLUMN grouped.
all. order order | joined. order order | asked. order order | grouped. order order | order by ordering | ordering COLUMN ordered. | ordered. desc down.
all. limit limit | joined. limit limit | asked. limit limit | grouped. limit limit | ordered. limit limit | down. limit limit | limit DIGITS end.`

// plainStep is a word that may stand at a place, and the place behind it.
type plainStep struct{ word, to string }

func (s plainStep) takes(word string) bool {
	if p := patterns[s.word]; p != nil {
		return p.MatchString(word)
	}
	return s.word == word
}

// plainPlaces are the steps of each place.
func plainPlaces() map[string][]plainStep {
	places := map[string][]plainStep{}
	for _, step := range strings.FieldsFunc(plainSteps, func(c rune) bool { return c == '|' || c == '\n' }) {
		parts := strings.Fields(step)
		places[parts[0]] = append(places[parts[0]], plainStep{parts[1], parts[2]})
	}
	return places
}

var plainWords = regexp.MustCompile(`[^ ]+`)

// plainQueryRead goes through a text's words from place to place.
func plainQueryRead(places map[string][]plainStep, text string) impl.QueryOut {
	words := plainWords.FindAllString(text, -1)
	switch {
	case len(text) > impl.MaxBytes:
		return impl.QueryOut{Code: impl.ErrSize}
	case len(words) > 200:
		return impl.QueryOut{Code: impl.ErrForm}
	}
	q, place := impl.Query{Limit: -1}, "start"
	for i, word := range words {
		step := slices.IndexFunc(places[place], func(s plainStep) bool { return s.takes(word) })
		if step < 0 {
			return syntaxAt(i)
		}
		plainTake(&q, place, word)
		place = places[place][step].to
	}
	switch {
	case !strings.HasSuffix(place, "."):
		return syntaxAt(len(words))
	case !plainQueryRight(q):
		return impl.QueryOut{Code: impl.ErrForm}
	}
	return asked(q)
}

// plainTake puts a word that stands at a place into a query.
func plainTake(q *impl.Query, place string, word string) {
	switch place {
	case "items":
		item := itemOf(int64(1+slices.Index([]string{"count", "sum", "min", "max"}, word)), "")
		if item.Agg == impl.AggNone {
			item.Column = word
		}
		q.Items = append(q.Items, item)
	case "of":
		q.Items[len(q.Items)-1].Column = word
	case "table":
		q.Table = word
	case "join":
		q.Join = word
	case "left":
		q.Left = word
	case "right":
		q.Right = word
	case "term":
		q.Where = append(q.Where, impl.Term{Column: word})
	case "op":
		q.Where[len(q.Where)-1].Op = word
	case "value":
		q.Where[len(q.Where)-1].Value = plainValue(word)
	case "grouping":
		q.Group = word
	case "ordering":
		q.Order = word
	case "ordered.":
		q.Down = word == "desc"
	case "limit":
		q.Limit = plainValue(word).Num
	}
}

func plainValue(word string) impl.Value {
	switch {
	case word == "null":
		return null()
	case word == "true":
		return boolOf(1)
	case word == "false":
		return boolOf(0)
	case word[0] == '\'':
		return textOf(word[1 : len(word)-1])
	}
	var n int64
	fmt.Sscanf(word, "%d", &n)
	return intOf(n)
}

// plainQueryRight asks for one fault behind the other.
func plainQueryRight(q impl.Query) bool {
	name, column := patterns["NAME"].MatchString, patterns["COLUMN"].MatchString
	grouped, others := q.Group != "", map[string]bool{}
	for _, item := range q.Items {
		grouped = grouped || item.Agg != impl.AggNone
		if item.Agg == impl.AggNone && item.Column != q.Group {
			others[item.Column] = true
		}
		if item.Agg < 0 || item.Agg > 4 || item.Agg == 1 && item.Column != "" || item.Agg != 1 && !column(item.Column) {
			return false
		}
	}
	for _, term := range q.Where {
		if !column(term.Column) || !patterns["OP"].MatchString(term.Op) || (term.Op == "is") != (term.Value == null()) || !plainWorded(term.Value) {
			return false
		}
	}
	joined := name(q.Join) && q.Join != q.Table && column(q.Left) && column(q.Right)
	switch {
	case len(q.Items) == 0, len(q.Items) > 10, len(q.Where) > 20, !name(q.Table), q.Limit < -1, q.Limit > 1000:
		return false
	case !joined && q.Join+q.Left+q.Right != "":
		return false
	case q.Group != "" && !column(q.Group), q.Order != "" && !column(q.Order), q.Order == "" && q.Down:
		return false
	}
	return !grouped || len(others) == 0 && (q.Order == "" || q.Order == q.Group)
}

// plainWorded tells whether a value may stand in a query.
func plainWorded(v impl.Value) bool {
	switch v.Kind {
	case impl.KindNull:
		return v == null()
	case impl.KindBool:
		return v == boolOf(0) || v == boolOf(1)
	case impl.KindInt:
		return v == intOf(v.Num) && len(strings.TrimLeft(fmt.Sprint(v.Num), "-")) <= 18
	case impl.KindText:
		return v == textOf(v.Text) && patterns["QUOTED"].MatchString(v.Text)
	}
	return false
}

// plainQueryText writes any query, right or not, as far as there are words for it.
func plainQueryText(q impl.Query) string {
	var items, terms []string
	for _, item := range q.Items {
		ahead := map[int64]string{impl.AggCount: "count", impl.AggSum: "sum ", impl.AggMin: "min ", impl.AggMax: "max "}[item.Agg]
		items = append(items, ahead+item.Column)
	}
	for _, term := range q.Where {
		word := map[int64]string{impl.KindNull: "null", impl.KindBool: fmt.Sprint(term.Value.Num == 1), impl.KindInt: fmt.Sprint(term.Value.Num), impl.KindText: "'" + term.Value.Text + "'"}[term.Value.Kind]
		terms = append(terms, term.Column+" "+term.Op+" "+word)
	}
	text := "select " + strings.Join(items, " , ") + " from " + q.Table
	add := func(is bool, more string) {
		if is {
			text += more
		}
	}
	add(q.Join != "", " join "+q.Join+" on "+q.Left+" = "+q.Right)
	add(len(terms) > 0, " where "+strings.Join(terms, " and "))
	add(q.Group != "", " group by "+q.Group)
	add(q.Order != "", " order by "+q.Order)
	add(q.Down, " desc")
	add(q.Limit >= 0, fmt.Sprint(" limit ", q.Limit))
	return text
}

func oneOf[T any](r *rand.Rand, l ...T) T { return l[r.Intn(len(l))] }

// drawItem draws of few things, so that they are alike often; now and then a wrong one.
func drawItem(r *rand.Rand) impl.Item {
	if r.Intn(60) == 0 {
		return itemOf(oneOf[int64](r, -1, 0, 1, 2, 5), oneOf(r, wrongColumns()...))
	}
	agg := oneOf[int64](r, 0, 0, 0, 0, 1, 2, 3, 4)
	if agg == impl.AggCount {
		return itemOf(agg, "")
	}
	return itemOf(agg, oneOf(r, "a.b", "a.b", "a.b", "a.b", "a.c"))
}

func drawTerm(r *rand.Rand) impl.Term {
	worded := wordedValues()
	switch r.Intn(60) {
	case 0:
		return termOf("a.b", oneOf(r, wrongOperators()...), oneOf(r, null(), intOf(1)))
	case 1:
		return termOf("a.b", oneOf(r, "=", "is"), oneOf(r, append(wrongValues(), null(), intOf(1), intOf(numEnd), textOf("A"))...))
	case 2, 3, 4, 5, 6, 7, 8, 9:
		return termOf("a.b", "is", null())
	}
	return termOf(oneOf(r, "a.b", "b.a", "is.is"), oneOf(r, comparisons()...), worded[oneOf(r, slices.Sorted(maps.Keys(worded))...)])
}

func drawQuery(r *rand.Rand) impl.Query {
	q := impl.Query{Table: oneOf(r, "a", "a", "a", "select", longName(3)), Limit: oneOf[int64](r, -1, -1, 0, 1, 1000)}
	for range oneOf(r, 1, 1, 1, 1, 2, 3, 9, 10) {
		q.Items = append(q.Items, drawItem(r))
	}
	for range oneOf(r, 0, 0, 0, 1, 2, 19, 20) {
		q.Where = append(q.Where, drawTerm(r))
	}
	if r.Intn(2) == 0 {
		q.Join, q.Left, q.Right = oneOf(r, "b", "c", "on", "join", "b", "c", "a"), oneOf(r, "a.b", "b.a"), oneOf(r, "a.b", "b.a")
	}
	q.Group = oneOf(r, "", "", "a.b", "a.b", "a.b", "a.c")
	q.Order = oneOf(r, "", "", q.Group, q.Group, "a.b", "a.c")
	q.Down = q.Order != "" && r.Intn(2) == 0
	switch r.Intn(60) {
	case 0:
		q.Items = nil
	case 1:
		q.Items = append(q.Items, q.Items...)
	case 2:
		q.Where = append(q.Where, drawTerm(r))
	case 3:
		q.Left, q.Group, q.Order = oneOf(r, wrongColumns()...), oneOf(r, wrongColumns()...), oneOf(r, "", "A.b")
	case 4:
		q.Limit, q.Down = oneOf[int64](r, -2, 1001, 5), true
	case 5:
		q.Table, q.Join = oneOf(r, wrongNames()...), oneOf(r, "b", "", "a.b")
	}
	return q
}

// Drawn queries are right as the plain functions say, and come back. (Promise 17.)
func TestQueriesAsPlain(t *testing.T) {
	r := rand.New(rand.NewSource(101))
	places := plainPlaces()
	right, wrong := 0, 0
	for range 6000 {
		q := drawQuery(r)
		text := impl.QueryText(q)
		same(t, tellQuery(q), impl.QueryRight(q), plainQueryRight(q))
		if !plainQueryRight(q) {
			wrong++
			same(t, tellQuery(q), text, "")
			continue
		}
		right++
		same(t, tellQuery(q), text, plainQueryText(q))
		sameQuery(t, text, impl.QueryRead(text), asked(q))
		sameQuery(t, text, plainQueryRead(places, text), asked(q))
	}
	if right < 1000 || wrong < 1000 {
		t.Errorf("%d right ones and %d others: the test looks at too little", right, wrong)
	}
}

// walkWords goes from place to place, by words that may stand there.
func walkWords(r *rand.Rand, places map[string][]plainStep) []string {
	words := map[string][]string{
		"NAME":   {"a", "b", "where", "null"},
		"COLUMN": {"a.b", "a.b", "a.b", "a.b", "b.a"},
		"OP":     {"=", "is", ">="},
		"VALUE":  {"1", "-1", "null", "null", "'a'", "'A'", "true", "''", "'''", "'" + strings.Repeat("a", mostQuoted+1) + "'"},
		"DIGITS": {"0", "7", "1000", "1001", "999999999999999999"},
	}
	var l []string
	for place := "start"; len(places[place]) > 0 && r.Intn(60) > 0; {
		step := oneOf(r, places[place]...)
		word := step.word
		if kind, isKind := words[word]; isKind {
			word = oneOf(r, kind...)
		}
		l = append(l, word)
		place = step.to
	}
	return l
}

// turnWords takes words out, puts others in or in their places, or puts some twice.
func turnWords(r *rand.Rand, words []string) []string {
	words = slices.Clone(words)
	others := append(nowhere(), keywords()...)
	others = append(others, "a", "a.b", ",", "=", "!=", "1", "-1", "'a'", "5", "0", "", " ")
	for range r.Intn(3) {
		at := r.Intn(len(words) + 1)
		switch to := min(at+r.Intn(3), len(words)); r.Intn(4) {
		case 0:
			words = slices.Delete(words, at, to)
		case 1:
			words = slices.Insert(words, at, oneOf(r, others...))
		case 2:
			words = slices.Replace(words, at, to, oneOf(r, others...))
		case 3:
			words = slices.Insert(words, at, slices.Clone(words[at:to])...)
		}
	}
	return words
}

// Words that are drawn along the places, and turned, are read as the plain functions say.
func TestQueryReadAsPlain(t *testing.T) {
	r := rand.New(rand.NewSource(102))
	places, codes := plainPlaces(), map[int64]int{}
	for i := range 20000 {
		words := walkWords(r, places)
		if i%2 == 0 {
			words = strings.Split(plainQueryText(drawQuery(r)), " ")
		}
		text := strings.Join(turnWords(r, words), " ")
		want := plainQueryRead(places, text)
		codes[want.Code]++
		got := impl.QueryRead(text)
		sameQuery(t, text, got, want)
		if got.Code == impl.OK {
			same(t, text, impl.QueryText(got.Query), strings.Join(strings.Fields(text), " "))
		}
	}
	for _, code := range []int64{impl.OK, impl.ErrForm, impl.ErrSyntax} {
		if codes[code] < 1000 {
			t.Errorf("code %d came %d times alone: the test looks at too little", code, codes[code])
		}
	}
}

// Any bytes are read as the plain functions say.
func TestQueryReadAnyBytes(t *testing.T) {
	r := rand.New(rand.NewSource(103))
	places := plainPlaces()
	texts := []string{ordinaryQueries()["groups"].text, ordinaryQueries()["each Agg"].text, ordinaryQueries()["a join, terms, down, limit"].text, greatestGroups().text}
	for range 5000 {
		text := []byte(oneOf(r, texts...))
		for range 1 + r.Intn(3) {
			text[r.Intn(len(text))] = oneOf(r, byte(r.Intn(256)), ' ', '.', ',', '\'', 'a', '0', '-')
		}
		sameQuery(t, string(text), impl.QueryRead(string(text)), plainQueryRead(places, string(text)))
		for i := range text {
			text[i] = oneOf(r, byte(r.Intn(256)), ' ', ' ', '.', ',', '\'', 'a')
		}
		sameQuery(t, string(text), impl.QueryRead(string(text)), plainQueryRead(places, string(text)))
	}
}

// What is handed in, and what is told.

func spansOfQuery(q impl.Query, what string) []span {
	return []span{spanOf(q.Items, what+" Items"), spanOf(q.Where, what+" Where")}
}

func TestQueriesAreNotChanged(t *testing.T) {
	queries := wrongQueries()
	for what, x := range rightQueries() {
		queries["right: "+what] = x.query
	}
	for what, q := range byName(queries) {
		// Room behind a list lets what is put there be seen.
		q.Items, q.Where = slices.Grow(slices.Clone(q.Items), 4), slices.Grow(slices.Clone(q.Where), 4)
		was := tellQuery(q)
		impl.QueryRight(q)
		impl.QueryText(q)
		same(t, what, tellQuery(q), was)
		items, terms := q.Items[len(q.Items):cap(q.Items)], q.Where[len(q.Where):cap(q.Where)]
		same(t, what+": the room behind the Items", slices.Equal(items, make([]impl.Item, len(items))), true)
		same(t, what+": the room behind the Terms", slices.Equal(terms, make([]impl.Term, len(terms))), true)
	}
}

// Nothing is kept from one text to the next, and no list of an answer is another one's.
func TestQueryAnswersStay(t *testing.T) {
	var spans []span
	var told []impl.QueryOut
	right := rightQueries()
	for what, x := range byName(right) {
		for range 2 {
			out := impl.QueryRead(x.text)
			told = append(told, out)
			spans = append(spans, spansOfQuery(out.Query, what)...)
		}
		impl.QueryRead("select a.b , a.b from")
	}
	spansApart(t, "told", spans)
	next := 0
	for what, x := range byName(right) {
		for _, out := range told[next:][:2] {
			sameQuery(t, what, out, asked(x.query))
			clear(out.Query.Items)
			clear(out.Query.Where)
		}
		sameQuery(t, what+", read again", impl.QueryRead(x.text), asked(x.query))
		next += 2
	}
}
