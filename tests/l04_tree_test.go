package tests

import (
	"fmt"
	"math/rand"
	"slices"
	"strconv"
	"strings"
	"testing"

	"loop.example/g00271/impl"
)

// mostLevels is how many levels a right tree may have.
const mostLevels = 12

// valOf is the val that keys have in these tests, where nothing else is said.
func valOf(key string) string { return "v" + key }

// leaf is a node without kids.
func leaf(keys ...string) impl.Tree {
	n := impl.Tree{Keys: slices.Clone(keys)}
	for _, k := range keys {
		n.Vals = append(n.Vals, valOf(k))
	}
	return n
}

// grow reads a tree from a text like "(a) b (c d)": a key is a letter, a kid stands in brackets.
func grow(text string) impl.Tree {
	n, rest := growNode(strings.ReplaceAll(text, " ", ""))
	if rest != "" {
		panic("no tree: " + text)
	}
	return n
}

func growNode(text string) (impl.Tree, string) {
	n := impl.Tree{}
	for text != "" && text[0] != ')' {
		if text[0] == '(' {
			kid, rest := growNode(text[1:])
			n.Kids, text = append(n.Kids, kid), rest[1:]
			continue
		}
		n.Keys, n.Vals, text = append(n.Keys, text[:1]), append(n.Vals, valOf(text[:1])), text[1:]
	}
	return n, text
}

// told tells a tree in all its parts; an empty list and none are told alike.
func told(t impl.Tree) string {
	var b strings.Builder
	tellNode(&b, t)
	return b.String()
}

func tellNode(b *strings.Builder, t impl.Tree) {
	fmt.Fprintf(b, "%q %q (", t.Keys, t.Vals)
	for _, kid := range t.Kids {
		tellNode(b, kid)
	}
	b.WriteString(")")
}

// cloneTree is a tree in memory of its own.
func cloneTree(t impl.Tree) impl.Tree {
	c := impl.Tree{Keys: slices.Clone(t.Keys), Vals: slices.Clone(t.Vals)}
	for _, kid := range t.Kids {
		c.Kids = append(c.Kids, cloneTree(kid))
	}
	return c
}

// perfect is a tree of that many levels, of as few keys as may be, or of as many. They are even numbers of five digits.
func perfect(levels int, keys int) impl.Tree {
	next := 0
	return perfectBelow(levels, keys, &next)
}

func perfectBelow(levels int, keys int, next *int) impl.Tree {
	n := impl.Tree{}
	for i := range keys + 1 {
		if levels > 1 {
			n.Kids = append(n.Kids, perfectBelow(levels-1, keys, next))
		}
		if i < keys {
			k := fiveDigits(*next)
			n.Keys, n.Vals = append(n.Keys, k), append(n.Vals, valOf(k))
			*next += 2
		}
	}
	return n
}

func fiveDigits(n int) string { return fmt.Sprintf("%05d", n) }

// pairsOf tells keys and vals of a tree from left to right.
func pairsOf(t impl.Tree) (keys []string, vals []string) {
	for i := range len(t.Keys) + 1 {
		if i < len(t.Kids) {
			k, v := pairsOf(t.Kids[i])
			keys, vals = append(keys, k...), append(vals, v...)
		}
		if i < len(t.Keys) {
			keys, vals = append(keys, t.Keys[i]), append(vals, t.Vals[i])
		}
	}
	return keys, vals
}

// wrongIn tells what is wrong with a tree, in the document's order: of its nodes, its depth, its keys; nothing, if it is right.
func wrongIn(t impl.Tree) string {
	depths := map[int]bool{}
	var look func(n impl.Tree, depth int) string
	look = func(n impl.Tree, depth int) string {
		if len(n.Keys) > 3 || len(n.Keys) == 0 && (depth > 1 || len(n.Kids) > 0) || len(n.Vals) != len(n.Keys) {
			return "a node of " + strconv.Itoa(len(n.Keys)) + " keys and " + strconv.Itoa(len(n.Vals)) + " vals"
		}
		if len(n.Kids) == 0 {
			depths[depth] = true
			return ""
		}
		if len(n.Kids) != len(n.Keys)+1 {
			return "a node of " + strconv.Itoa(len(n.Kids)) + " kids"
		}
		for _, kid := range n.Kids {
			if w := look(kid, depth+1); w != "" {
				return w
			}
		}
		return ""
	}
	if w := look(t, 1); w != "" {
		return w
	}
	if len(depths) != 1 {
		return "leaves at unlike depths"
	}
	keys, _ := pairsOf(t)
	for i := range keys {
		if i > 0 && keys[i-1] >= keys[i] {
			return "keys that do not rise"
		}
	}
	return ""
}

func spansOf(t impl.Tree, what string) []span {
	return addSpans(nil, t, what+" Keys", what+" Vals", what+" Kids")
}

func addSpans(l []span, t impl.Tree, keys string, vals string, kids string) []span {
	l = append(l, spanOf(t.Keys, keys), spanOf(t.Vals, vals), spanOf(t.Kids, kids))
	for _, kid := range t.Kids {
		l = addSpans(l, kid, keys, vals, kids)
	}
	return l
}

// apart fails the test, if two lists of these trees share memory.
func apart(t *testing.T, what string, trees ...impl.Tree) {
	t.Helper()
	var spans []span
	for i, x := range trees {
		spans = append(spans, spansOf(x, "tree "+strconv.Itoa(i))...)
	}
	spansApart(t, what, spans)
}

// changed does a put or a del, and fails the test, if what was handed in is not as it was, or shares memory with the answer.
func changed(t *testing.T, what string, from impl.Tree, do func(impl.Tree) impl.Tree) impl.Tree {
	t.Helper()
	was := told(from)
	got := do(from)
	if told(from) != was {
		t.Errorf("%s: the tree that was handed in is changed", what)
	}
	apart(t, what, from, got)
	return got
}

func put(key string, val string) func(impl.Tree) impl.Tree {
	return func(t impl.Tree) impl.Tree { return impl.TreePut(t, key, val) }
}

func del(key string) func(impl.Tree) impl.Tree {
	return func(t impl.Tree) impl.Tree { return impl.TreeDel(t, key) }
}

// step is a key that is put into a tree, or taken out, and the tree that comes of it.
type step struct{ from, key, want string }

// What a put makes of a tree, node by node.
func TestTreePutShape(t *testing.T) {
	for _, s := range []step{
		{"", "a", "a"}, {"b", "a", "a b"}, {"b", "c", "b c"}, {"a c", "b", "a b c"}, {"b c", "a", "a b c"}, {"a b", "c", "a b c"},
		// A full root is split, its second key alone in the new one.
		{"a b c", "d", "(a) b (c d)"}, {"b c d", "a", "(a b) c (d)"}, {"a c d", "b", "(a b) c (d)"}, {"a b d", "c", "(a) b (c d)"},
		{"(a) c (e) g (i) k (m)", "b", "((a b) c (e)) g ((i) k (m))"}, {"(a) c (e) g (i) k (m)", "n", "((a) c (e)) g ((i) k (m n))"},
		{"(a) c (e) g (i) k (m n o)", "p", "((a) c (e)) g ((i) k (m) n (o p))"},
		{"(a b d) e (f) g (i) k (m)", "c", "((a) b (c d) e (f)) g ((i) k (m))"},
		// A full kid is split ahead of being gone into, and no other one.
		{"(a) c (e g i)", "d", "(a) c (d e) g (i)"}, {"(a) c (e g i)", "f", "(a) c (e f) g (i)"}, {"(a) c (e g i)", "h", "(a) c (e) g (h i)"}, {"(a) c (e g i)", "j", "(a) c (e) g (i j)"},
		{"(b c d) f (h)", "a", "(a b) c (d) f (h)"}, {"(b c d) f (h)", "e", "(b) c (d e) f (h)"}, {"(a c d) e (g)", "h", "(a c d) e (g h)"},
		{"(a) b (c e g) h (j)", "d", "(a) b (c d) e (g) h (j)"}, {"(a) b (c e g) h (j)", "f", "(a) b (c) e (f g) h (j)"},
		{"((a) c (e) g (i) k (m)) o ((q) s (u))", "b", "((a b) c (e)) g ((i) k (m)) o ((q) s (u))"},
		{"((a) c (e) g (i) k (m)) o ((q) s (u))", "l", "((a) c (e)) g ((i) k (l m)) o ((q) s (u))"},
		{"((a) c (e) g (i) k (m)) o ((q) s (u))", "r", "((a) c (e) g (i) k (m)) o ((q r) s (u))"},
		// A key that is there is not put again, and nothing is split on the way to it.
		{"a b c", "b", "a b c"}, {"(a) c (e g i)", "g", "(a) c (e g i)"}, {"(a) c (e g i)", "c", "(a) c (e g i)"},
		{"((a) c (e) g (i) k (m)) o ((q) s (u))", "e", "((a) c (e) g (i) k (m)) o ((q) s (u))"},
	} {
		what := s.from + " put " + s.key
		same(t, what, told(changed(t, what, grow(s.from), put(s.key, valOf(s.key)))), told(grow(s.want)))
	}
}

// What a del makes of a tree, node by node.
func TestTreeDelShape(t *testing.T) {
	for _, s := range []step{
		{"a", "a", ""}, {"a b c", "a", "b c"}, {"a b c", "b", "a c"}, {"a b c", "c", "a b"}, {"(a b) c (d)", "a", "(b) c (d)"}, {"(a) b (c d e)", "d", "(a) b (c e)"},
		// A key above kids: the kid ahead lends, or the one behind, or both are joined.
		{"(a b) c (d)", "c", "(a) b (d)"}, {"(a b) c (d e)", "c", "(a) b (d e)"}, {"(a) c (d e)", "c", "(a) d (e)"}, {"(a) c (d e f)", "c", "(a) d (e f)"},
		{"(a) b (c)", "b", "a c"}, {"(a) b (c) d (e)", "b", "(a c) d (e)"}, {"(a) b (c) d (e)", "d", "(a) b (c e)"}, {"(a b) c (d) e (f)", "e", "(a b) c (d f)"},
		{"((a) b (c) d (e)) f ((g) h (i))", "f", "((a) b (c d)) e ((g) h (i))"}, {"((a) b (c)) d ((e) f (g) h (i))", "d", "((a) b (c)) e ((f g) h (i))"},
		{"((a) b (c)) d ((e) f (g))", "d", "(a) b (c e) f (g)"}, {"((a) b (c d)) e ((f) g (h))", "e", "(a) b (c) d (f) g (h)"},
		// A kid of one key on the way is filled: from ahead, from behind, joined with that ahead, with that behind.
		{"(a b) c (d)", "d", "(a) b (c)"}, {"(a b) c (d) e (f g)", "d", "(a) b (c) e (f g)"}, {"(a) c (d) e (f g)", "d", "(a) c (e) f (g)"}, {"(a) b (c d)", "a", "(b) c (d)"},
		{"(a) b (c d e)", "a", "(b) c (d e)"}, {"(a b c) d (e)", "e", "(a b) c (d)"},
		{"(a) b (c) d (e)", "c", "(a b) d (e)"}, {"(a) b (c) d (e)", "a", "(b c) d (e)"}, {"(a) b (c) d (e)", "e", "(a) b (c d)"}, {"(a) b (c)", "a", "b c"}, {"(a) b (c)", "c", "a b"},
		{"((a) b (c) d (e)) f ((g) h (i))", "g", "((a) b (c)) d ((e f) h (i))"}, {"((a) b (c) d (e)) f ((g) h (i))", "h", "((a) b (c)) d ((e) f (g i))"},
		{"((a) b (c)) d ((e) f (g) h (i))", "a", "((b c) d (e)) f ((g) h (i))"}, {"((a) b (c)) d ((e) f (g) h (i))", "b", "((a c) d (e)) f ((g) h (i))"},
		{"((a) b (c)) d ((e) f (g))", "a", "(b c) d (e) f (g)"}, {"((a) b (c)) d ((e) f (g))", "g", "(a) b (c) d (e f)"},
		{"((a) b (c)) d ((e) f (g)) h ((i) j (k))", "e", "((a) b (c d) f (g)) h ((i) j (k))"},
		// A kid of two keys is gone into as it is, also beside one of three.
		{"(a b c) d (e f)", "f", "(a b c) d (e)"}, {"((a) b (c) d (e)) f ((g) h (i) j (k l))", "l", "((a) b (c) d (e)) f ((g) h (i) j (k))"},
		// A key that is not there changes nothing: no kid is filled on the way to where it would be.
		{"", "a", ""}, {"a c", "b", "a c"}, {"(a b) c (e)", "d", "(a b) c (e)"}, {"((a) b (c)) d ((e) f (h))", "g", "((a) b (c)) d ((e) f (h))"},
	} {
		what := s.from + " del " + s.key
		same(t, what, told(changed(t, what, grow(s.from), del(s.key))), told(grow(s.want)))
	}
}

// plainPut puts a key as the document says, in another way than the program: each node is made anew from below.
func plainPut(t impl.Tree, key string, val string) impl.Tree {
	if keys, _ := pairsOf(t); slices.Contains(keys, key) {
		return plainSet(t, key, val)
	}
	if len(t.Keys) == 3 {
		t = plainNode(t.Keys[1:2], t.Vals[1:2], halves(t))
	}
	return plainDown(t, key, val)
}

func plainNode(keys []string, vals []string, kids []impl.Tree) impl.Tree {
	return impl.Tree{Keys: slices.Clone(keys), Vals: slices.Clone(vals), Kids: slices.Clone(kids)}
}

func halves(t impl.Tree) []impl.Tree {
	if len(t.Kids) == 0 {
		return []impl.Tree{plainNode(t.Keys[:1], t.Vals[:1], nil), plainNode(t.Keys[2:], t.Vals[2:], nil)}
	}
	return []impl.Tree{plainNode(t.Keys[:1], t.Vals[:1], t.Kids[:2]), plainNode(t.Keys[2:], t.Vals[2:], t.Kids[2:])}
}

func plainSet(t impl.Tree, key string, val string) impl.Tree {
	t = plainNode(t.Keys, t.Vals, t.Kids)
	for i := range t.Keys {
		if t.Keys[i] == key {
			t.Vals[i] = val
		}
	}
	for i := range t.Kids {
		t.Kids[i] = plainSet(t.Kids[i], key, val)
	}
	return t
}

// placeIn counts the keys of a node that are less.
func placeIn(t impl.Tree, key string) int {
	n := 0
	for _, k := range t.Keys {
		if k < key {
			n++
		}
	}
	return n
}

func plainDown(t impl.Tree, key string, val string) impl.Tree {
	at := placeIn(t, key)
	t = plainNode(t.Keys, t.Vals, t.Kids)
	if len(t.Kids) == 0 {
		return plainNode(slices.Insert(t.Keys, at, key), slices.Insert(t.Vals, at, val), nil)
	}
	if kid := t.Kids[at]; len(kid.Keys) == 3 {
		t = plainNode(slices.Insert(t.Keys, at, kid.Keys[1]), slices.Insert(t.Vals, at, kid.Vals[1]), slices.Replace(t.Kids, at, at+1, halves(kid)...))
		at = placeIn(t, key)
	}
	t.Kids[at] = plainDown(t.Kids[at], key, val)
	return t
}

// plainDel takes a key out likewise.
func plainDel(t impl.Tree, key string) impl.Tree {
	if keys, _ := pairsOf(t); !slices.Contains(keys, key) {
		return t
	}
	t = plainOut(t, key)
	if len(t.Keys) == 0 && len(t.Kids) == 1 {
		return t.Kids[0]
	}
	return t
}

func plainOut(t impl.Tree, key string) impl.Tree {
	t = plainNode(t.Keys, t.Vals, t.Kids)
	at := placeIn(t, key)
	here := at < len(t.Keys) && t.Keys[at] == key
	switch {
	case here && len(t.Kids) == 0:
		return plainNode(slices.Delete(t.Keys, at, at+1), slices.Delete(t.Vals, at, at+1), nil)
	case here && len(t.Kids[at].Keys) >= 2:
		keys, vals := pairsOf(t.Kids[at])
		t.Keys[at], t.Vals[at] = keys[len(keys)-1], vals[len(vals)-1]
		t.Kids[at] = plainOut(t.Kids[at], t.Keys[at])
	case here && len(t.Kids[at+1].Keys) >= 2:
		keys, vals := pairsOf(t.Kids[at+1])
		t.Keys[at], t.Vals[at] = keys[0], vals[0]
		t.Kids[at+1] = plainOut(t.Kids[at+1], t.Keys[at])
	case here:
		t = plainJoin(t, at)
		t.Kids[at] = plainOut(t.Kids[at], key)
	default:
		t = plainFill(t, at)
		at = min(at, len(t.Kids)-1)
		for at > 0 && t.Keys[at-1] > key {
			at--
		}
		t.Kids[at] = plainOut(t.Kids[at], key)
	}
	return t
}

func plainJoin(t impl.Tree, at int) impl.Tree {
	a, b := t.Kids[at], t.Kids[at+1]
	one := impl.Tree{Keys: slices.Concat(a.Keys, []string{t.Keys[at]}, b.Keys), Vals: slices.Concat(a.Vals, []string{t.Vals[at]}, b.Vals), Kids: slices.Concat(a.Kids, b.Kids)}
	return plainNode(slices.Delete(t.Keys, at, at+1), slices.Delete(t.Vals, at, at+1), slices.Replace(t.Kids, at, at+2, one))
}

func plainFill(t impl.Tree, at int) impl.Tree {
	if len(t.Kids[at].Keys) > 1 {
		return t
	}
	for _, beside := range []int{at - 1, at + 1} {
		if beside >= 0 && beside < len(t.Kids) && len(t.Kids[beside].Keys) > 1 {
			first := min(at, beside)
			return plainShare(plainJoin(t, first), first, beside < at)
		}
	}
	return plainJoin(t, max(at-1, 0))
}

// plainShare cuts a kid that two were joined to: so that the second one has two keys, or the first one.
func plainShare(t impl.Tree, at int, second bool) impl.Tree {
	kid := t.Kids[at]
	cut := 2
	if second {
		cut = len(kid.Keys) - 3
	}
	a, b := plainNode(kid.Keys[:cut], kid.Vals[:cut], nil), plainNode(kid.Keys[cut+1:], kid.Vals[cut+1:], nil)
	if len(kid.Kids) > 0 {
		a.Kids, b.Kids = slices.Clone(kid.Kids[:cut+1]), slices.Clone(kid.Kids[cut+1:])
	}
	return plainNode(slices.Insert(t.Keys, at, kid.Keys[cut]), slices.Insert(t.Vals, at, kid.Vals[cut]), slices.Replace(t.Kids, at, at+1, a, b))
}

// holds fails the test unless the tree is right, and has just these keys and vals, told by all the calls that ask.
func holds(t *testing.T, what string, x impl.Tree, want map[string]string) {
	t.Helper()
	if w := wrongIn(x); w != "" || !impl.TreeRight(x) {
		t.Fatalf("%s: not right: %s", what, w)
	}
	keys, vals := pairsOf(x)
	if len(keys) != len(want) {
		t.Fatalf("%s: %d keys, want %d", what, len(keys), len(want))
	}
	for i, k := range keys {
		if v, there := want[k]; !there || v != vals[i] {
			t.Fatalf("%s: %q is %q, want %q (%t)", what, k, vals[i], v, there)
		}
	}
	same(t, what+": size", impl.TreeSize(x), int64(len(want)))
	levels := 0
	for n := &x; len(n.Keys) > 0; n = &n.Kids[0] {
		levels++
		if len(n.Kids) == 0 {
			break
		}
	}
	same(t, what+": height", impl.TreeHeight(x), int64(levels))
	if len(want) < 1<<levels-1 {
		t.Errorf("%s: %d levels of %d keys", what, levels, len(want))
	}
}

// oddKeys are keys at the edges of what a text may be.
func oddKeys() []string {
	return []string{"", "\x00", "\x00\x00", "a", "a\x00", "aa", "b", "\x7f", "\x80", "\xff", "\xff\x00", "\xff\xff", "é", strings.Repeat("k", impl.MaxBytes), strings.Repeat("k", impl.MaxBytes-1) + "l"}
}

// Promise 5, over keys that come and go at random: those that the tree has, and their vals, are those of a map.
func TestTreeComesAndGoes(t *testing.T) {
	r := rand.New(rand.NewSource(6))
	for _, many := range []int{4, 12, 40, 150} {
		var names []string
		for i := range many {
			names = append(names, "k"+strconv.Itoa(i))
		}
		names = append(names, oddKeys()...)
		x, want := impl.Tree{}, map[string]string{}
		for i := range 40 + 8*len(names) {
			k := names[r.Intn(len(names))]
			// The tree grows at first, and then goes to nothing.
			grows := r.Intn(40+8*len(names)) > i
			what := fmt.Sprintf("of %d: %d: put %t %.20q", many, i, grows, k)
			if grows {
				v := strconv.Itoa(i)
				plain := plainPut(cloneTree(x), k, v)
				x = changed(t, what, x, put(k, v))
				want[k] = v
				same(t, what, told(x), told(plain))
				same(t, what, impl.TreeGet(x, k), impl.TreeOut{Val: v})
			} else {
				plain := plainDel(cloneTree(x), k)
				x = changed(t, what, x, del(k))
				delete(want, k)
				same(t, what, told(x), told(plain))
				same(t, what, impl.TreeGet(x, k), impl.TreeOut{Code: impl.ErrNone})
			}
			holds(t, what, x, want)
		}
	}
}

// inOrder are numbers below many, rising, falling, and from both ends.
func inOrder(many int) [][]int {
	up, down, ends := []int{}, []int{}, []int{}
	for i := range many {
		up, down = append(up, i), append(down, many-1-i)
		if i%2 == 0 {
			ends = append(ends, i/2)
		} else {
			ends = append(ends, many-1-i/2)
		}
	}
	return [][]int{up, down, ends}
}

// Promise 5, over keys in some order: all are there, and are taken out in each order down to nothing.
func TestTreeInOrder(t *testing.T) {
	const many = 90
	for i, in := range inOrder(many) {
		x, want := impl.Tree{}, map[string]string{}
		for _, n := range in {
			k := fiveDigits(n)
			want[k] = valOf(k)
			plain := plainPut(cloneTree(x), k, valOf(k))
			x = impl.TreePut(x, k, valOf(k))
			same(t, "put "+k, told(x), told(plain))
			holds(t, "put "+k, x, want)
		}
		for j, out := range inOrder(many) {
			y, left := x, map[string]string{}
			for k, v := range want {
				left[k] = v
			}
			for _, n := range out {
				k := fiveDigits(n)
				delete(left, k)
				plain := plainDel(cloneTree(y), k)
				y = impl.TreeDel(y, k)
				what := fmt.Sprintf("in %d, out %d: del %s", i, j, k)
				same(t, what, told(y), told(plain))
				holds(t, what, y, left)
			}
			same(t, "in the end", told(y), told(impl.Tree{}))
		}
	}
}

// Promise 5, over each key of trees of as few and as many keys as may be: it is got, set, and taken out, the others are as they were.
func TestTreePerfect(t *testing.T) {
	for levels := 1; levels <= 3; levels++ {
		for keys := 1; keys <= 3; keys++ {
			x := perfect(levels, keys)
			names, _ := pairsOf(x)
			all := map[string]string{}
			for _, k := range names {
				all[k] = valOf(k)
			}
			holds(t, "perfect", x, all)
			for i, k := range names {
				what := fmt.Sprintf("%d levels of %d keys: %s", levels, keys, k)
				same(t, what, impl.TreeGet(x, k), impl.TreeOut{Val: valOf(k)})
				same(t, what+" set", told(changed(t, what, x, put(k, ""))), told(plainSet(x, k, "")))
				without := changed(t, what, x, del(k))
				same(t, what+" out", told(without), told(plainDel(x, k)))
				delete(all, k)
				holds(t, what+" out", without, all)
				all[k] = valOf(k)
				between := fiveDigits(2*i + 1)
				same(t, between, impl.TreeGet(x, between), impl.TreeOut{Code: impl.ErrNone})
				same(t, between+" in", told(changed(t, between, x, put(between, "new"))), told(plainPut(x, between, "new")))
				same(t, between+" out", told(changed(t, between, x, del(between))), told(x))
			}
		}
	}
}

// The most levels that may be: no key more is put, but one that is there is set, and taken out.
func TestTreeMostLevels(t *testing.T) {
	x := perfect(mostLevels, 1)
	all := map[string]string{}
	keys, _ := pairsOf(x)
	for _, k := range keys {
		all[k] = valOf(k)
	}
	holds(t, "twelve levels", x, all)
	same(t, "twelve levels: size", impl.TreeSize(x), 1<<mostLevels-1)
	for _, k := range []string{"", "00001", "04095", "99999"} {
		same(t, "one more: "+k, told(changed(t, k, x, put(k, "v"))), told(x))
	}
	for _, k := range []string{"00000", "04094", "02048", "08188"} {
		same(t, "set: "+k, told(changed(t, k, x, put(k, "new"))), told(plainSet(x, k, "new")))
		out := changed(t, k, x, del(k))
		delete(all, k)
		holds(t, "out: "+k, out, all)
		same(t, "out: "+k, told(out), told(plainDel(x, k)))
		all[k] = valOf(k)
		same(t, "out: "+k, impl.TreeHeight(out), mostLevels-1)
		same(t, "in again: "+k, impl.TreeGet(impl.TreePut(out, k, "new"), k), impl.TreeOut{Val: "new"})
	}

	// Eleven levels under a full root become twelve; a twelfth is not split to a thirteenth.
	four := impl.Tree{Keys: []string{"1", "2", "3"}, Vals: []string{"", "", ""}}
	for i := range 4 {
		four.Kids = append(four.Kids, prefixed(perfect(mostLevels-2, 1), strconv.Itoa(i)))
	}
	same(t, "eleven levels", impl.TreeHeight(four), mostLevels-1)
	split := changed(t, "eleven levels", four, put("x", "v"))
	same(t, "eleven levels split", told(split), told(plainPut(four, "x", "v")))
	same(t, "eleven levels split", impl.TreeHeight(split), mostLevels)
	same(t, "and no more", told(impl.TreePut(split, "y", "v")), told(split))
}

// prefixed is a tree with a text ahead of each of its keys.
func prefixed(t impl.Tree, text string) impl.Tree {
	for i := range t.Keys {
		t.Keys[i] = text + t.Keys[i]
	}
	for _, kid := range t.Kids {
		prefixed(kid, text)
	}
	return t
}

// Promise 6: a range is the keys between two ones, both with them, whether or not the tree has these.
func TestTreeRange(t *testing.T) {
	trees := []impl.Tree{{}, leaf("a"), leaf("a", "b", "c"), grow("(a) c (e g i)"), grow("((a) c (e) g (i)) k ((m) o (q))"), perfect(3, 3), perfect(4, 1)}
	odd := impl.Tree{}
	for _, k := range oddKeys() {
		odd = impl.TreePut(odd, k, valOf("x"))
	}
	trees = append(trees, odd)
	for i, x := range trees {
		keys, _ := pairsOf(x)
		ends := []string{"", "\x00", "a", "a0", "b", "z", "\xff", "\xff\xff\xff", "00007", strings.Repeat("k", impl.MaxBytes)}
		for _, k := range keys[:min(len(keys), 20)] {
			ends = append(ends, k, k[:min(len(k), impl.MaxBytes-1)]+"\x00", k[:max(len(k)-1, 0)])
		}
		for _, low := range ends {
			for _, high := range ends {
				var want []string
				for _, k := range keys {
					if low <= k && k <= high {
						want = append(want, k)
					}
				}
				if got := impl.TreeRange(x, low, high); !slices.Equal(got, want) {
					t.Errorf("tree %d from %.20q to %.20q: got %.200q, want %.200q", i, low, high, got, want)
				}
			}
		}
	}
	same(t, "more than a list that is handed in may have", len(impl.TreeRange(perfect(mostLevels, 1), "", "99999")), 1<<mostLevels-1)
}

// A range is new memory.
func TestTreeRangeIsNew(t *testing.T) {
	x := leaf("a", "b", "c")
	got := impl.TreeRange(x, "a", "c")
	got[0] = "changed"
	same(t, "the tree", told(x), told(leaf("a", "b", "c")))
}

// wrongTrees are not right, each for one reason, which its name tells.
func wrongTrees() map[string]impl.Tree {
	long := strings.Repeat("k", impl.MaxBytes+1)
	wrong := map[string]impl.Tree{
		"a root of four keys":                  leaf("a", "b", "c", "d"),
		"a kid of four keys":                   grow("(a) b (c d e f)"),
		"a kid of no keys":                     grow("(a) b ()"),
		"a first kid of no keys":               grow("() b (c)"),
		"a kid of no keys that has a kid":      grow("((a)) b ((c) d (e))"),
		"a root of no keys that has a kid":     grow("(a b)"),
		"a root of no keys that has two kids":  grow("(a) (b)"),
		"a root of no keys that has an empty":  {Kids: []impl.Tree{{}}},
		"a root of no keys that has a val":     {Vals: []string{"v"}},
		"a val too few":                        {Keys: []string{"a", "b"}, Vals: []string{"v"}},
		"no vals":                              {Keys: []string{"a"}},
		"a val too many":                       {Keys: []string{"a"}, Vals: []string{"v", "v"}},
		"too few kids":                         grow("(a) b"),
		"too many kids":                        grow("(a) b (c) (d)"),
		"as many kids as keys":                 grow("(a) b (c) d"),
		"keys that fall":                       leaf("b", "a"),
		"keys that fall behind":                leaf("a", "c", "b"),
		"keys alike":                           leaf("a", "a"),
		"keys alike behind":                    leaf("a", "b", "b"),
		"empty keys alike":                     leaf("", ""),
		"keys of a kid alike":                  grow("(a) b (c c)"),
		"a kid's key like the one behind it":   grow("(a b) b (c)"),
		"a kid's key like the one ahead of it": grow("(a) b (b c)"),
		"a kid's key above the one behind it":  grow("(a c) b (d)"),
		"a kid's key below the one ahead":      grow("(a) c (b d)"),
		"kids in the wrong order":              grow("(c) b (a)"),
		"a key too great two levels below":     grow("((a) b (e)) d ((f) g (h))"),
		"a key too small two levels below":     grow("((a) b (c)) d ((c) g (h))"),
		"leaves at unlike depths":              grow("(a) b ((c) d (e))"),
		"leaves at unlike depths, last":        grow("((a) b (c)) d (e)"),
		"leaves at unlike depths, middle":      grow("((a) b (c)) d (e) f ((g) h (i))"),
		"leaves at unlike depths, far below":   grow("((a) b (c)) d (((e) f (g)) h ((i) j (k)))"),
		"a key too long":                       {Keys: []string{long}, Vals: []string{"v"}},
		"a val too long":                       {Keys: []string{"a"}, Vals: []string{long}},
		"a last val too long":                  {Keys: []string{"a", "b", "c"}, Vals: []string{"v", "v", long}},
		"a kid's val too long":                 {Keys: []string{"b"}, Vals: []string{"v"}, Kids: []impl.Tree{leaf("a"), {Keys: []string{"c"}, Vals: []string{long}}}},
		"a kid's key too long":                 {Keys: []string{"b"}, Vals: []string{"v"}, Kids: []impl.Tree{leaf("a"), {Keys: []string{long}, Vals: []string{"v"}}}},
		"a level too many":                     perfect(mostLevels+1, 1),
		"far too many keys":                    leaf(slices.Repeat([]string{"a"}, impl.MaxList+1)...),
		"far too many kids":                    {Keys: []string{"b"}, Vals: []string{"v"}, Kids: make([]impl.Tree, impl.MaxList+1)},
	}
	chain := leaf("a")
	for range 2000 {
		chain = impl.Tree{Keys: []string{"a"}, Vals: []string{"v"}, Kids: []impl.Tree{chain, leaf("b")}}
	}
	wrong["very deep"] = chain
	deep := perfect(mostLevels, 1)
	last := &deep
	for len(last.Kids) > 0 {
		last = &last.Kids[1]
	}
	*last = impl.Tree{Keys: []string{"1"}, Vals: []string{""}, Kids: []impl.Tree{leaf("0"), leaf("2")}}
	wrong["a level too many at one place"] = deep
	return wrong
}

// What is not right is refused by each call, and told by put and del as it is.
func TestTreeWrong(t *testing.T) {
	for why, x := range wrongTrees() {
		same(t, why+": right", impl.TreeRight(x), false)
		same(t, why+": size", impl.TreeSize(x), 0)
		same(t, why+": height", impl.TreeHeight(x), 0)
		for _, k := range []string{"", "a", "b", "c", "z", "00000"} {
			same(t, why+": get", impl.TreeGet(x, k), impl.TreeOut{Code: impl.ErrForm})
			same(t, why+": put", told(changed(t, why, x, put(k, "v"))), told(x))
			same(t, why+": del", told(changed(t, why, x, del(k))), told(x))
		}
		if got := impl.TreeRange(x, "", "\xff"); len(got) != 0 {
			t.Errorf("%s: a range of %.100q", why, got)
		}
	}
}

// A kid that lies at two places has its keys twice; put and del tell it at each place in memory of its own.
func TestTreeKidTwice(t *testing.T) {
	x := leaf("a")
	for range mostLevels - 1 {
		x = impl.Tree{Keys: []string{"b"}, Vals: []string{"v"}, Kids: []impl.Tree{x, x}}
	}
	same(t, "right", impl.TreeRight(x), false)
	for _, got := range []impl.Tree{impl.TreePut(x, "a", "new"), impl.TreeDel(x, "a")} {
		same(t, "as it is", told(got), told(x))
		apart(t, "as it is", got)
	}
}

// A tree that lies in itself is no right one; each call answers.
func TestTreeInItself(t *testing.T) {
	kids := []impl.Tree{leaf("a"), {Keys: []string{"c"}, Vals: []string{"v"}}}
	kids[1].Kids = kids
	x := impl.Tree{Keys: []string{"b"}, Vals: []string{"v"}, Kids: kids}
	same(t, "right", impl.TreeRight(x), false)
	same(t, "size", impl.TreeSize(x), 0)
	same(t, "height", impl.TreeHeight(x), 0)
	same(t, "get", impl.TreeGet(x, "a"), impl.TreeOut{Code: impl.ErrForm})
	same(t, "range", len(impl.TreeRange(x, "", "z")), 0)
	same(t, "put", told(impl.TreePut(x, "a", "v")), told(impl.Tree{}))
	same(t, "del", told(impl.TreeDel(x, "a")), told(impl.Tree{}))
}

// Trees at the edges of what is right.
func TestTreeRight(t *testing.T) {
	long := strings.Repeat("k", impl.MaxBytes)
	for why, x := range map[string]impl.Tree{
		"zero":              {},
		"empty lists":       {Keys: []string{}, Vals: []string{}, Kids: []impl.Tree{}},
		"one":               leaf("a"),
		"an empty key":      leaf(""),
		"empty vals":        {Keys: []string{"", "\x00"}, Vals: []string{"", ""}},
		"three":             leaf("a", "b", "c"),
		"the longest texts": {Keys: []string{long}, Vals: []string{long}},
		"two levels":        grow("(a) b (c d e) f (g)"),
		"four full kids":    grow("(a b c) d (e f g) h (i j k) l (m n o)"),
		"vals alike":        {Keys: []string{"a", "b"}, Vals: []string{"v", "v"}},
		"twelve levels":     perfect(mostLevels, 1),
		"six full levels":   perfect(6, 3),
		"bytes, not runes":  leaf("\x7f", "\x80", "\xff"),
		"shorter one first": leaf("a", "a\x00", "aa"),
	} {
		keys, _ := pairsOf(x)
		same(t, why, impl.TreeRight(x), true)
		same(t, why, impl.TreeSize(x), int64(len(keys)))
		same(t, why+": del of none", told(changed(t, why, x, del("not there"))), told(x))
	}
	same(t, "no levels", impl.TreeHeight(impl.Tree{}), 0)
	same(t, "one level", impl.TreeHeight(leaf("a", "b", "c")), 1)
	same(t, "six levels", impl.TreeHeight(perfect(6, 3)), 6)
	same(t, "get of nothing", impl.TreeGet(impl.Tree{}, ""), impl.TreeOut{Code: impl.ErrNone})
}

// Texts too long are refused ahead of all else, those as long as may be are taken.
func TestTreeLongTexts(t *testing.T) {
	most, more := strings.Repeat("k", impl.MaxBytes), strings.Repeat("k", impl.MaxBytes+1)
	wrong := leaf("b", "a")
	for why, x := range map[string]impl.Tree{"right": grow("(a) b (c d e)"), "wrong": wrong, "zero": {}, "full": perfect(mostLevels, 1)} {
		same(t, why+": get", impl.TreeGet(x, more), impl.TreeOut{Code: impl.ErrSize})
		same(t, why+": put key", told(impl.TreePut(x, more, "v")), told(impl.Tree{}))
		same(t, why+": put val", told(impl.TreePut(x, "a", more)), told(impl.Tree{}))
		same(t, why+": put both", told(impl.TreePut(x, more, more)), told(impl.Tree{}))
		same(t, why+": del", told(impl.TreeDel(x, more)), told(impl.Tree{}))
		same(t, why+": range low", len(impl.TreeRange(x, strings.Repeat("\x00", impl.MaxBytes+1), "z")), 0)
		same(t, why+": range high", len(impl.TreeRange(x, "", more)), 0)
	}
	same(t, "get of the longest", impl.TreeGet(wrong, most), impl.TreeOut{Code: impl.ErrForm})
	x := impl.TreePut(leaf("a"), most, most)
	same(t, "right with the longest", impl.TreeRight(x), true)
	same(t, "got the longest", impl.TreeGet(x, most), impl.TreeOut{Val: most})
	same(t, "range to the longest", len(impl.TreeRange(x, most, most)), 1)
	same(t, "without the longest", told(impl.TreeDel(x, most)), told(leaf("a")))
}

// What is done with an answer later leaves the trees that it came of as they were.
func TestTreeAnswersStay(t *testing.T) {
	r := rand.New(rand.NewSource(7))
	trees, texts := []impl.Tree{{}}, []string{told(impl.Tree{})}
	for range 400 {
		x := trees[r.Intn(len(trees))]
		k := strconv.Itoa(r.Intn(60))
		if r.Intn(3) == 0 {
			x = impl.TreeDel(x, k)
		} else {
			x = impl.TreePut(trees[len(trees)-1], k, k)
		}
		trees, texts = append(trees, x), append(texts, told(x))
	}
	for i := range trees {
		same(t, "tree "+strconv.Itoa(i), told(trees[i]), texts[i])
	}
}
