package names

import (
	"fmt"
	"math"
	"math/rand"
	"reflect"
	"slices"
	"strconv"
	"strings"
	"testing"

	"spindle/api"
	"spindle/object"
)

// short tells the beginning of a thing, as some are long.
func short(x any) string {
	s := fmt.Sprintf("%+v", x)
	return s[:min(len(s), 400)]
}

func array(name string, entries int) api.TableDef {
	return api.TableDef{Name: name, Kind: api.TableArray, Key: 4, Value: 8, Entries: entries}
}

// obj gives an object of words: `F` in `F()` is a global function, in `F-` a local one, in `F[2]` a table of two entries, in `F?` an extern.
func obj(words string) api.Object {
	var o api.Object
	for _, w := range strings.Fields(words) {
		switch {
		case strings.HasSuffix(w, "()"), strings.HasSuffix(w, "-"):
			global := strings.HasSuffix(w, "()")
			o.Funcs = append(o.Funcs, api.ObjFunc{Name: strings.TrimRight(w, "()-"), Global: global, First: len(o.Text), Count: 1})
			o.Text = append(o.Text, api.Insn{Op: 0x95})
		case strings.HasSuffix(w, "?"):
			o.Externs = append(o.Externs, strings.TrimSuffix(w, "?"))
		default:
			name, entries, _ := strings.Cut(strings.TrimSuffix(w, "]"), "[")
			n, err := strconv.Atoi(entries)
			if err != nil {
				panic(w)
			}
			o.Tables = append(o.Tables, array(name, n))
		}
	}
	return o
}

// objs gives the objects of a text in which `|` stands between them; the empty text is none.
func objs(text string) []api.Object {
	var os []api.Object
	if text == "" {
		return os
	}
	for _, words := range strings.Split(text, "|") {
		os = append(os, obj(words))
	}
	return os
}

func same(a, b api.Names) bool {
	return slices.Equal(a.Funcs, b.Funcs) && slices.Equal(a.Tables, b.Tables)
}

// checkMerge holds Merge against the second reading.
func checkMerge(t *testing.T, os []api.Object) api.Errno {
	t.Helper()
	all, name, e := Merge(os)
	want, wantName, wantE := readMerge(os)
	if !same(all, want) || name != wantName || e != wantE {
		t.Fatalf("P15.1: Merge(%s) = %s, %q, %d, want %s, %q, %d", short(os), short(all), name, e, short(want), wantName, wantE)
	}
	return e
}

// inOrder gives the objects in an order: the k-th is the one with the number order[k].
func inOrder(os []api.Object, order []int) []api.Object {
	turned := make([]api.Object, len(os))
	for k, number := range order {
		turned[k] = os[number]
	}
	return turned
}

// checkOrder: of the objects in another order the answer is the same, with the numbers of the objects changed through the order.
func checkOrder(t *testing.T, os []api.Object, order []int) {
	t.Helper()
	want, wantName, wantE := Merge(os)
	all, name, e := Merge(inOrder(os, order))
	for k := range all.Funcs {
		all.Funcs[k].Object = order[all.Funcs[k].Object]
	}
	if !same(all, want) || name != wantName || e != wantE {
		t.Fatalf("P15.2: %s in the order %v: %s, %q, %d, want %s, %q, %d", short(os), order, short(all), name, e, short(want), wantName, wantE)
	}
}

// orders gives all orders of n things.
func orders(n int) [][]int {
	if n == 0 {
		return [][]int{{}}
	}
	var list [][]int
	for _, order := range orders(n - 1) {
		for k := range n {
			list = append(list, slices.Insert(slices.Clone(order), k, n-1))
		}
	}
	return list
}

// checkAllOrders looks at the objects in each of their orders.
func checkAllOrders(t *testing.T, os []api.Object) {
	t.Helper()
	for _, order := range orders(len(os)) {
		checkMerge(t, inOrder(os, order))
		checkOrder(t, os, order)
	}
}

// checkRefused: which error and which name Merge tells, in every order.
func checkRefused(t *testing.T, text, wantName string, want api.Errno) {
	t.Helper()
	if all, name, e := Merge(objs(text)); !same(all, api.Names{}) || name != wantName || e != want {
		t.Errorf("P15.1: Merge(%s) = %+v, %q, %d, want nothing, %q, %d", text, all, name, e, wantName, want)
	}
	checkAllOrders(t, objs(text))
}

// checkNames: which names objects have, told as `F (0, 1)` and `t[2]`.
func checkNames(t *testing.T, text, want string) {
	t.Helper()
	all, name, e := Merge(objs(text))
	var told []string
	for _, f := range all.Funcs {
		told = append(told, fmt.Sprintf("%s (%d, %d)", f.Name, f.Object, f.Func))
	}
	for _, d := range all.Tables {
		told = append(told, fmt.Sprintf("%s[%d]", d.Name, d.Entries))
		if d != array(d.Name, d.Entries) {
			t.Errorf("P15.1: Merge(%s) gives the table %+v", text, d)
		}
	}
	if got := strings.Join(told, " "); got != want || name != "" || e != api.OK {
		t.Errorf("P15.1: Merge(%s) = %s, %q, %d, want %s, no name, OK", text, got, name, e, want)
	}
	checkAllOrders(t, objs(text))
}

func TestExamples(t *testing.T) {
	checkNames(t, "", "")
	checkNames(t, " ", "")
	checkNames(t, "F() g- t[1]|G() F? t[1]", "F (0, 0) G (1, 0) t[1]")
	checkNames(t, "f-|f-", "")
	checkRefused(t, "F()|F()", "F", api.ErrLinkTwice)
	checkRefused(t, "F()|F[1]", "F", api.ErrLinkTwice)
	checkNames(t, "f-|f[1]", "f[1]")
	checkRefused(t, "x?|a? x()", "a", api.ErrLinkUndefined)
	checkRefused(t, "x?|x-", "x", api.ErrLinkUndefined)
	checkRefused(t, "t?|t[1]", "t", api.ErrLinkUndefined)
	checkRefused(t, "t[1]|t[2]|x?", "x", api.ErrLinkUndefined)
	if all, name, e := Merge(make([]api.Object, 65)); !same(all, api.Names{}) || name != "" || e != api.ErrLinkMany {
		t.Errorf("P15.1: Merge(65 of nothing) = %+v, %q, %d, want ErrLinkMany", all, name, e)
	}
}

// TestBound: a function's number counts the local ones and those of its object alone, an object's number those of nothing too.
func TestBound(t *testing.T) {
	checkNames(t, "a- b() c- d() t[3]", "b (0, 1) d (0, 3) t[3]")
	checkNames(t, "a- b()||c() x- y() b?| |a() z- d-", "a (4, 0) b (0, 1) c (2, 0) y (2, 2)")
	checkNames(t, "z() y() x()|w() v()", "v (1, 1) w (1, 0) x (0, 2) y (0, 1) z (0, 0)")
	checkNames(t, "t[1] s[2]|r[3] t[1]|q[4]", "q[4] r[3] s[2] t[1]")
}

// TestTwice: which two names clash.
func TestTwice(t *testing.T) {
	for _, text := range []string{
		"F()|F()", "F()|F[1]", "F()|a-|F()", "F()|F()|F()", "F()|F[1]|F[1]", "F()|F[1]|F[2]", "F()|F-|F()", "F()|F?|F()", "F()|F-|F[1]", "F()|F?|F[1]",
		"a- F() b[1]|c[1] F[1]", "a() b() F()|F() c() d()",
	} {
		checkRefused(t, text, "F", api.ErrLinkTwice)
	}
	checkNames(t, "F()|F-", "F (0, 0)")
	checkNames(t, "F()|F?", "F (0, 0)")
	checkNames(t, "F()|F-|F-|F?|F?", "F (0, 0)")
	checkNames(t, "f-|f[1]|f[1]|f-", "f[1]")
	checkRefused(t, "c() b()|d() c() b()|d()", "b", api.ErrLinkTwice)
	checkRefused(t, "c() b()|d() c() b[1]|d()", "b", api.ErrLinkTwice)
	checkRefused(t, "c() b[1]|d() c() a[1]|b[2] d()", "c", api.ErrLinkTwice)
}

// TestUndefined: an extern is a global function of some object, called or not.
func TestUndefined(t *testing.T) {
	for _, text := range []string{"x?", "x?|x?", "x?|x-", "x?|x[1]", "x?|x-|x[1]", "x? z?|z()", "y() x?|y? z()", "x?|"} {
		checkRefused(t, text, "x", api.ErrLinkUndefined)
	}
	checkNames(t, "x?|x()", "x (1, 0)")
	checkNames(t, "x?|x?|a- x()", "x (2, 1)")
	checkNames(t, "a() b?|b() c?|c() a?", "a (0, 0) b (1, 0) c (2, 0)")
	checkRefused(t, "d? c?|b? d?|c()", "b", api.ErrLinkUndefined)
	checkRefused(t, "d?|c?|c()", "d", api.ErrLinkUndefined)
}

// TestCalled: an extern that is called is no other one.
func TestCalled(t *testing.T) {
	caller := api.Object{
		Text:    []api.Insn{{Op: 0x85, Src: 1, Imm: -1}, {Op: 0x18, Dst: 1, Src: 1}, {Op: 0x95}},
		Funcs:   []api.ObjFunc{{Name: "m", Global: true, Count: 3}},
		Tables:  []api.TableDef{array("t", 1)},
		Externs: []string{"b", "c"},
		Relocs:  []api.Reloc{{At: 0, Kind: api.RelCall, Name: 2}, {At: 1, Kind: api.RelTable, Name: 0}},
	}
	for _, row := range []struct {
		other string
		name  string
		want  api.Errno
	}{
		{"b() c()", "", api.OK},
		{"c()", "b", api.ErrLinkUndefined},
		{"b()", "c", api.ErrLinkUndefined},
		{"t() b() c()", "t", api.ErrLinkTwice},
		{"b() c() t[2]", "t", api.ErrLinkShape},
	} {
		os := []api.Object{caller, obj(row.other)}
		if _, name, e := Merge(os); name != row.name || e != row.want {
			t.Errorf("P15.1: a caller of c and %s: %q, %d, want %q, %d", row.other, name, e, row.name, row.want)
		}
		checkAllOrders(t, os)
	}
}

// TestShape: each of the four numbers is the shape's.
func TestShape(t *testing.T) {
	hash := api.TableDef{Name: "t", Kind: api.TableHash, Key: 4, Value: 8, Entries: 2}
	shapes := []api.TableDef{hash, hash, hash, hash, hash}
	shapes[1].Kind = api.TableArray
	shapes[2].Key = 5
	shapes[3].Value = 7 // rounded it is the same
	shapes[4].Entries = 1
	for i, a := range shapes {
		for j, b := range shapes {
			os := []api.Object{{Tables: []api.TableDef{array("s", 1), a}}, {Tables: []api.TableDef{b, array("u", 1)}}}
			all, name, e := Merge(os)
			switch {
			case i == j && (e != api.OK || name != "" || !same(all, api.Names{Tables: []api.TableDef{array("s", 1), a, array("u", 1)}})):
				t.Errorf("P15.1: two of the shape %+v: %+v, %q, %d", a, all, name, e)
			case i != j && (e != api.ErrLinkShape || name != "t" || !same(all, api.Names{})):
				t.Errorf("P15.1: %+v and %+v: %+v, %q, %d, want t, ErrLinkShape", a, b, all, name, e)
			}
			checkAllOrders(t, os)
		}
	}
	checkRefused(t, "t[1]|t[1]|t[2]", "t", api.ErrLinkShape)
	checkRefused(t, "t[1]|f()|t[1]|t[2] f?", "t", api.ErrLinkShape)
	checkRefused(t, "d[1] c[1]|c[2] b[1]|d[2] b[3]", "b", api.ErrLinkShape)
	checkRefused(t, "d[1] c[1]|c[1] b[1]|d[2] b[1]", "d", api.ErrLinkShape)
	checkNames(t, "t[1]|t[1]|t[1]|t-", "t[1]")
}

// TestFirstError: where several errors hold the first one is told, whatever the names.
func TestFirstError(t *testing.T) {
	twice, undefined, shape := []string{"%()", "%()"}, []string{"%?", ""}, []string{"%[1]", "%[2]"}
	for _, order := range orders(3) {
		name := func(k int) string { return "xyz"[order[k] : order[k]+1] }
		for mask := 1; mask < 8; mask++ {
			parts := [2]string{}
			wantName, want := "", api.OK
			for k, words := range [][]string{twice, undefined, shape} {
				if mask>>k&1 == 0 {
					continue
				}
				for j := range parts {
					parts[j] += " " + strings.ReplaceAll(words[j], "%", name(k))
				}
				if want == api.OK {
					wantName, want = name(k), []api.Errno{api.ErrLinkTwice, api.ErrLinkUndefined, api.ErrLinkShape}[k]
				}
			}
			checkRefused(t, parts[0]+"|"+parts[1], wantName, want)
		}
	}
}

// rising gives names in their byte order.
func rising() []string {
	return append(strings.Fields("A A0 AA Aa B Z ZZ _ _$ _0 _A __ _a a a$ a$$ a. a.$ a0 a00 a0a a1 a10 a2 a9 aA aZ a_ aa aaa ab b z z.z zz"), strings.Repeat("z", 63), strings.Repeat("z", 64))
}

// TestByteOrder: names rise by their bytes, and the least one is told.
func TestByteOrder(t *testing.T) {
	list := rising()
	r := rand.New(rand.NewSource(15))
	for range 50 {
		var parts [3]string
		var want []string
		for _, k := range r.Perm(len(list)) {
			parts[r.Intn(3)] += " " + list[k] + "()"
		}
		all, _, e := Merge(objs(strings.Join(parts[:], "|")))
		for _, f := range all.Funcs {
			want = append(want, f.Name)
		}
		if e != api.OK || !slices.Equal(want, list) {
			t.Fatalf("P15.1: functions %q, %d, want %q", want, e, list)
		}
		all, _, e = Merge(objs(strings.ReplaceAll(strings.Join(parts[:], "|"), "()", "[1]")))
		if e != api.OK || len(all.Funcs) != 0 || !slices.EqualFunc(all.Tables, list, func(d api.TableDef, name string) bool { return d == array(name, 1) }) {
			t.Fatalf("P15.1: tables %s, %d, want %q", short(all), e, list)
		}
		checkMerge(t, objs(strings.Join(parts[:], "|")))
	}
	for k, less := range list {
		for _, more := range list[k+1:] {
			for _, row := range []struct {
				text string
				want api.Errno
			}{
				{"M() L()|L() M()", api.ErrLinkTwice},
				{"M() L[1]|L() M[1]", api.ErrLinkTwice},
				{"M[1] L()|L[1] M()", api.ErrLinkTwice},
				{"M? L?", api.ErrLinkUndefined},
				{"M?|L?", api.ErrLinkUndefined},
				{"M[1] L[1]|L[2] M[2]", api.ErrLinkShape},
			} {
				os := objs(strings.NewReplacer("L", less, "M", more).Replace(row.text))
				if _, name, e := Merge(os); name != less || e != row.want {
					t.Errorf("P15.1: %s with %q and %q: %q, %d, want the first name, %d", row.text, less, more, name, e, row.want)
				}
			}
		}
	}
}

// whole gives an object that has everything.
func whole() api.Object {
	return api.Object{
		Text:    []api.Insn{{Op: 0x85, Src: 1, Imm: -1}, {Op: 0x95}, {Op: 0x18, Dst: 1, Src: 1}, {Op: 0x05, Off: 9}, {Op: 0x85, Src: 1, Imm: -1}},
		Funcs:   []api.ObjFunc{{Name: "l", Count: 2}, {Name: "g", Global: true, First: 2, Count: 2}, {Name: "a", Global: true, First: 4, Count: 1}},
		Tables:  []api.TableDef{array("t", 2), {Name: "s", Kind: api.TableHash, Key: 3, Value: 5, Entries: 7}},
		Externs: []string{"x", "b"},
		Relocs:  []api.Reloc{{At: 0, Kind: api.RelCall, Name: 3}, {At: 2, Kind: api.RelTable, Name: 1}, {At: 4, Kind: api.RelCall, Name: 0}},
	}
}

// rest gives an object that links with the whole one.
func rest() api.Object { return obj("b() l() k- x() t[2] r[1] a?") }

func wholeNames() api.Names {
	return api.Names{
		Funcs: []api.Bound{
			{Name: "a", Object: 0, Func: 2}, {Name: "b", Object: 1, Func: 0}, {Name: "g", Object: 0, Func: 1}, {Name: "l", Object: 1, Func: 1}, {Name: "x", Object: 1, Func: 3},
		},
		Tables: []api.TableDef{array("r", 1), {Name: "s", Kind: api.TableHash, Key: 3, Value: 5, Entries: 7}, array("t", 2)},
	}
}

func TestWhole(t *testing.T) {
	os := []api.Object{whole(), rest()}
	if all, name, e := Merge(os); !same(all, wholeNames()) || name != "" || e != api.OK {
		t.Errorf("P15.1: Merge(whole, rest) = %+v, %q, %d, want %+v", all, name, e, wholeNames())
	}
	checkAllOrders(t, os)
}

// spoils gives changes of the whole object that layer 12 refuses, and its error.
func spoils() []struct {
	spoil func(*api.Object)
	want  api.Errno
} {
	return []struct {
		spoil func(*api.Object)
		want  api.Errno
	}{
		{func(o *api.Object) { o.Text = append(o.Text, slices.Repeat([]api.Insn{{Op: 0x95}}, 65536)...) }, api.ErrObjectMany},
		{func(o *api.Object) { o.Funcs = slices.Repeat(o.Funcs, 342) }, api.ErrObjectMany},
		{func(o *api.Object) { o.Tables = slices.Repeat(o.Tables, 513) }, api.ErrObjectMany},
		{func(o *api.Object) { o.Externs = slices.Repeat(o.Externs, 513) }, api.ErrObjectMany},
		{func(o *api.Object) { o.Funcs[0].Name = "" }, api.ErrObjectName},
		{func(o *api.Object) { o.Tables[0].Name = "1" }, api.ErrObjectName},
		{func(o *api.Object) { o.Externs[0] = strings.Repeat("a", 65) }, api.ErrObjectName},
		{func(o *api.Object) { o.Externs[0] = "g" }, api.ErrObjectTwice},
		{func(o *api.Object) { o.Tables[1].Name = "g" }, api.ErrObjectTwice},
		{func(o *api.Object) { o.Tables[1].Name = "t" }, api.ErrObjectTwice},
		{func(o *api.Object) { o.Funcs[2].Name = "g" }, api.ErrObjectTwice},
		{func(o *api.Object) { o.Funcs[0].First = math.MinInt }, api.ErrObjectFunc},
		{func(o *api.Object) { o.Funcs[2].Count = math.MaxInt }, api.ErrObjectFunc},
		{func(o *api.Object) { o.Funcs = nil }, api.ErrObjectFunc},
		{func(o *api.Object) { o.Tables[0].Key = 8 }, api.ErrObjectTable},
		{func(o *api.Object) { o.Tables[1].Entries = math.MaxInt }, api.ErrObjectTable},
		{func(o *api.Object) { o.Text[1].Op = -1 }, api.ErrObjectInsn},
		{func(o *api.Object) { o.Text[0].Imm = 0 }, api.ErrObjectInsn},
		{func(o *api.Object) { o.Relocs[0].Name = 5 }, api.ErrObjectReloc},
		{func(o *api.Object) { o.Relocs = nil }, api.ErrObjectReloc},
	}
}

// TestObjects: one object that may not be, wherever it stands, goes ahead of all that is wrong with the names, and no name is told.
func TestObjects(t *testing.T) {
	for k, row := range spoils() {
		wrong := whole()
		row.spoil(&wrong)
		if _, e := object.Check(wrong); e != row.want {
			t.Fatalf("spoil %d: %d, want %d", k, e, row.want)
		}
		for _, others := range []string{"", "b() x()", "F()|F()|x?", "x?", "t[1]|t[2]", "F()|F[1]|u?|s[1]|s[2]"} {
			for at := range len(objs(others)) + 1 {
				os := slices.Insert(objs(others), at, wrong)
				if all, name, e := Merge(os); !same(all, api.Names{}) || name != "" || e != api.ErrLinkObject {
					t.Errorf("P15.1: spoil %d at %d in %q: %+v, %q, %d, want ErrLinkObject", k, at, others, all, name, e)
				}
			}
		}
	}
}

// TestMany: 64 objects are fine, one more is not, whatever it is.
func TestMany(t *testing.T) {
	wrong := api.Object{Text: []api.Insn{{Op: 0x95}}}
	for _, row := range []struct {
		what  string
		o     api.Object
		whole api.Errno // what 64 of it are
		name  string
	}{
		{"nothing", api.Object{}, api.OK, ""},
		{"local functions, tables", obj("f- t[1]"), api.OK, ""},
		{"global functions", obj("g() f()"), api.ErrLinkTwice, "f"},
		{"externs", obj("g- f?"), api.ErrLinkUndefined, "f"},
		{"wrong ones", wrong, api.ErrLinkObject, ""},
	} {
		for n, want := range map[int]api.Errno{63: row.whole, 64: row.whole, 65: api.ErrLinkMany, 66: api.ErrLinkMany, 1000: api.ErrLinkMany} {
			name := row.name
			if want == api.ErrLinkMany {
				name = ""
			}
			os := slices.Repeat([]api.Object{row.o}, n)
			if _, told, e := Merge(os); told != name || e != want {
				t.Errorf("P15.1: %d times %s: %q, %d, want %q, %d", n, row.what, told, e, name, want)
			}
			checkMerge(t, os)
		}
	}
	last := append(make([]api.Object, 63), obj("x- F() t[1]"))
	all, _, e := Merge(last)
	if want := (api.Names{Funcs: []api.Bound{{Name: "F", Object: 63, Func: 1}}, Tables: []api.TableDef{array("t", 1)}}); e != api.OK || !same(all, want) {
		t.Errorf("P15.1: the last of 64: %+v, %d, want %+v", all, e, want)
	}
	for _, row := range []struct {
		first, last string
		name        string
		want        api.Errno
	}{
		{"F()", "F()", "F", api.ErrLinkTwice}, {"F()", "F[1]", "F", api.ErrLinkTwice}, {"F[1]", "F()", "F", api.ErrLinkTwice},
		{"F?", "F-", "F", api.ErrLinkUndefined}, {"F?", "F()", "", api.OK}, {"F()", "F?", "", api.OK},
		{"F[1]", "F[2]", "F", api.ErrLinkShape}, {"F[1]", "F[1]", "", api.OK},
	} {
		os := slices.Concat(objs(row.first), make([]api.Object, 62), objs(row.last))
		if _, name, e := Merge(os); name != row.name || e != row.want {
			t.Errorf("P15.1: %s and, 63 behind it, %s: %q, %d, want %q, %d", row.first, row.last, name, e, row.name, row.want)
		}
	}
}

// TestEachThree: three objects in which each of two names is nothing, each sort of function, each of two shapes, or an extern.
func TestEachThree(t *testing.T) {
	t.Parallel()
	var each []api.Object
	sorts := []string{"", "%-", "%()", "%[1]", "%[2]", "%?"}
	for _, a := range sorts {
		for _, b := range sorts {
			each = append(each, obj(strings.ReplaceAll(b, "%", "b")+" "+strings.ReplaceAll(a, "%", "a")))
		}
	}
	told := map[api.Errno]int{}
	for _, o := range each {
		for _, p := range each {
			for _, q := range each {
				told[checkMerge(t, []api.Object{o, p, q})]++
			}
		}
	}
	if len(told) != 4 {
		t.Errorf("told %v", told)
	}
}

// some gives objects of chance; few enough of a name that many lists are right.
func some(r *rand.Rand) []api.Object {
	os := make([]api.Object, r.Intn(7))
	list := rising()[:3+r.Intn(20)]
	for _, name := range list {
		global, shape := r.Intn(2*len(os)+1), 1+r.Intn(2)
		for k := range os {
			var word string
			switch n := r.Intn(6); {
			case k == global:
				word = "()"
			case n == 0 && global < len(os):
				word = "?"
			case n == 1:
				word = "-"
			case n == 2 && global >= len(os):
				word = fmt.Sprintf("[%d]", shape+r.Intn(20)/19)
			default:
				continue
			}
			switch r.Intn(200) {
			case 0:
				word = "()"
			case 1:
				word = "?"
			case 2:
				word = "[3]"
			}
			o := obj(name + word)
			if len(o.Funcs) > 0 {
				o.Funcs[0].First = len(os[k].Text)
			}
			os[k] = api.Object{Text: append(os[k].Text, o.Text...), Funcs: append(os[k].Funcs, o.Funcs...), Tables: append(os[k].Tables, o.Tables...), Externs: append(os[k].Externs, o.Externs...)}
		}
	}
	for k := range os {
		o := &os[k]
		r.Shuffle(len(o.Tables), func(i, j int) { o.Tables[i], o.Tables[j] = o.Tables[j], o.Tables[i] })
		r.Shuffle(len(o.Externs), func(i, j int) { o.Externs[i], o.Externs[j] = o.Externs[j], o.Externs[i] })
		r.Shuffle(len(o.Funcs), func(i, j int) {
			f, g := &o.Funcs[i], &o.Funcs[j]
			f.Name, g.Name, f.Global, g.Global = g.Name, f.Name, g.Global, f.Global
		})
	}
	return os
}

// TestSome: lists of chance, in some order too, and as they are when they were bytes between.
func TestSome(t *testing.T) {
	t.Parallel()
	r := rand.New(rand.NewSource(151))
	told := map[api.Errno]int{}
	for range 20000 {
		os := some(r)
		e := checkMerge(t, os)
		told[e]++
		order := r.Perm(len(os))
		checkMerge(t, inOrder(os, order))
		checkOrder(t, os, order)
		if told[e] <= 100 {
			checkBytes(t, os)
		}
	}
	for _, e := range []api.Errno{api.OK, api.ErrLinkTwice, api.ErrLinkUndefined, api.ErrLinkShape} {
		if told[e] < 500 {
			t.Errorf("only %d lists were %d", told[e], e)
		}
	}
	if len(told) != 4 {
		t.Errorf("told %v", told)
	}
}

// checkBytes: objects that were written and read again have the same names.
func checkBytes(t *testing.T, os []api.Object) {
	t.Helper()
	again := make([]api.Object, len(os))
	for k, o := range os {
		b, at, e := object.Write(o)
		if e != api.OK {
			t.Fatalf("object.Write(%s) = %d, %d", short(o), at, e)
		}
		again[k], _, _ = object.Read(b)
	}
	want, wantName, wantE := Merge(os)
	if all, name, e := Merge(again); !same(all, want) || name != wantName || e != wantE {
		t.Fatalf("T14: %s read again: %s, %q, %d, want %s, %q, %d", short(os), short(all), name, e, short(want), wantName, wantE)
	}
}

// TestOrders: every order of some lists.
func TestOrders(t *testing.T) {
	t.Parallel()
	r := rand.New(rand.NewSource(152))
	for range 300 {
		os := some(r)
		checkAllOrders(t, os[:min(len(os), 5)])
	}
}

// roomy gives a list with the same items, and spare room behind them that is filled with an item.
func roomy[E any](list []E, filler E) []E {
	wider := append(slices.Clone(list), slices.Repeat([]E{filler}, 3)...)
	return wider[:len(list)]
}

// roomyObjects gives objects with spare room behind each list, filled with what would fit there.
func roomyObjects(os ...api.Object) []api.Object {
	list := make([]api.Object, len(os))
	for k, o := range os {
		list[k] = api.Object{
			Text:    roomy(o.Text, api.Insn{Op: 0x95}),
			Funcs:   roomy(o.Funcs, api.ObjFunc{Name: "room", Global: true, First: len(o.Text), Count: 1}),
			Tables:  roomy(o.Tables, array("chamber", 1)),
			Externs: roomy(o.Externs, "hall"),
			Relocs:  roomy(o.Relocs, api.Reloc{At: len(o.Text), Kind: api.RelCall}),
		}
	}
	return roomy(list, obj("room() chamber[1] hall?"))
}

// allOf gives a list with its spare room.
func allOf[E any](list []E) []E { return slices.Clone(list[:cap(list)]) }

// stateOf gives all of the objects, their spare room too.
func stateOf(os []api.Object) []any {
	var all []any
	for _, o := range allOf(os) {
		all = append(all, allOf(o.Text), allOf(o.Funcs), allOf(o.Tables), allOf(o.Externs), allOf(o.Relocs), len(o.Text), len(o.Funcs), len(o.Tables), len(o.Externs), len(o.Relocs))
	}
	return all
}

// TestArgumentsAreLeft: neither what is handed in nor its spare room is changed or looked at.
func TestArgumentsAreLeft(t *testing.T) {
	for _, row := range []struct {
		os   []api.Object
		want api.Errno
	}{
		{[]api.Object{whole(), rest()}, api.OK},
		{[]api.Object{whole(), whole()}, api.ErrLinkTwice},
		{[]api.Object{whole()}, api.ErrLinkUndefined},
		{[]api.Object{whole(), obj("x() b() t[1]")}, api.ErrLinkShape},
		{[]api.Object{whole(), obj("x() x()")}, api.ErrLinkObject},
		{slices.Repeat([]api.Object{whole()}, 65), api.ErrLinkMany},
	} {
		os := roomyObjects(row.os...)
		before := stateOf(os)
		if e := checkMerge(t, os); e != row.want {
			t.Errorf("R4: %s: %d, want %d", short(os), e, row.want)
		}
		if after := stateOf(os); !reflect.DeepEqual(before, after) {
			t.Errorf("R4: %s is %s now", short(before), short(after))
		}
	}
}

// spoilNames writes over all of an answer, and behind its lists.
func spoilNames(all api.Names) {
	funcs, tables := all.Funcs[:cap(all.Funcs)], all.Tables[:cap(all.Tables)]
	for k := range funcs {
		funcs[k] = api.Bound{Name: "spoilt"}
	}
	for k := range tables {
		tables[k] = api.TableDef{Name: "spoilt"}
	}
}

// TestAnswersAreNew: whoever writes into an answer changes neither an argument nor another answer, and the other way round.
func TestAnswersAreNew(t *testing.T) {
	for _, os := range [][]api.Object{roomyObjects(whole(), rest()), {whole(), rest()}} {
		before := stateOf(os)
		first, _, _ := Merge(os)
		second, _, _ := Merge(os)
		spoilNames(first)
		if after := stateOf(os); !reflect.DeepEqual(before, after) {
			t.Errorf("R4: objects share memory with their names: %s", short(after))
		}
		if !same(second, wholeNames()) {
			t.Errorf("R4: two answers share memory: %+v", second)
		}
		if third, _, _ := Merge(os); !same(third, wholeNames()) {
			t.Errorf("R4: Merge = %+v behind writes into an answer", third)
		}
		for _, o := range os {
			clear(o.Text)
			clear(o.Funcs)
			clear(o.Tables)
			clear(o.Externs)
			clear(o.Relocs)
		}
		clear(os)
		if !same(second, wholeNames()) {
			t.Errorf("R4: an answer keeps its objects' memory: %+v", second)
		}
	}
}

// TestNilAndEmpty: nil and empty lists are one.
func TestNilAndEmpty(t *testing.T) {
	empty := api.Object{Text: []api.Insn{}, Funcs: []api.ObjFunc{}, Tables: []api.TableDef{}, Externs: []string{}, Relocs: []api.Reloc{}}
	for _, os := range [][]api.Object{nil, {}, {{}}, {empty}, {{}, empty}} {
		if all, name, e := Merge(os); !same(all, api.Names{}) || name != "" || e != api.OK {
			t.Errorf("R1: Merge(%+v) = %+v, %q, %d, want nothing, OK", os, all, name, e)
		}
	}
}

// TestAgain: the same objects have the same answer each time, also where many names are wrong.
func TestAgain(t *testing.T) {
	for _, sorts := range [][2]string{{"()", "?"}, {"()", "()"}, {"()", "[1]"}, {"-", "?"}, {"[1]", "[2]"}} {
		list := rising()
		os := objs(strings.Join(list, sorts[0]+" ") + sorts[0] + "|" + strings.Join(list, sorts[1]+" ") + sorts[1])
		want, wantName, wantE := readMerge(os)
		for range 100 {
			if all, name, e := Merge(os); !same(all, want) || name != wantName || e != wantE {
				t.Fatalf("R5: Merge(%s) = %s, %q, %d, want %s, %q, %d", short(os), short(all), name, e, short(want), wantName, wantE)
			}
		}
	}
}

// TestSideBySide: calls at one time have nothing to do with each other.
func TestSideBySide(t *testing.T) {
	os := []api.Object{whole(), rest()}
	for k := range 8 {
		t.Run(strconv.Itoa(k), func(t *testing.T) {
			t.Parallel()
			for range 200 {
				if all, name, e := Merge(os); !same(all, wholeNames()) || name != "" || e != api.OK {
					t.Fatalf("R5: %+v, %q, %d", all, name, e)
				}
			}
		})
	}
}

// fullest gives 64 objects, each with as many slots, functions, tables and externs as there may be: all functions global, each object's externs being the functions of the next one.
func fullest() []api.Object {
	os := make([]api.Object, 64)
	text := slices.Repeat([]api.Insn{{Op: 0x95}}, 65536)
	name := func(what string, object, k int) string { return fmt.Sprintf("%s%d.%d", what, object, k) }
	for n := range os {
		o := api.Object{Text: text}
		for k := range 1024 {
			o.Funcs = append(o.Funcs, api.ObjFunc{Name: name("f", n, k), Global: true, First: 64 * k, Count: 64})
			o.Tables = append(o.Tables, array(name("t", n, k), 1))
			o.Externs = append(o.Externs, name("f", (n+1)%64, k))
		}
		os[n] = o
	}
	return os
}

// TestFullest: as many names as there may be; that they are too many for one image is not asked here.
func TestFullest(t *testing.T) {
	t.Parallel()
	os := fullest()
	all, name, e := Merge(os)
	if name != "" || e != api.OK || len(all.Funcs) != 65536 || len(all.Tables) != 65536 {
		t.Fatalf("P15.1: Merge(fullest) = %s, %q, %d", short(all), name, e)
	}
	for k, f := range all.Funcs {
		if os[f.Object].Funcs[f.Func].Name != f.Name || k > 0 && all.Funcs[k-1].Name >= f.Name {
			t.Fatalf("P15.1: function %d is %+v", k, f)
		}
	}
	for k, d := range all.Tables {
		if d != array(d.Name, 1) || k > 0 && all.Tables[k-1].Name >= d.Name {
			t.Fatalf("P15.1: table %d is %+v", k, d)
		}
	}
	os[63].Tables[1023].Name, os[63].Tables[1023].Entries = "t0.0", 2
	if _, name, e := Merge(os); name != "t0.0" || e != api.ErrLinkShape {
		t.Errorf("P15.1: a table of another shape: %q, %d", name, e)
	}
	os[40].Externs[512] = "t0.0"
	if _, name, e := Merge(os); name != "t0.0" || e != api.ErrLinkUndefined {
		t.Errorf("P15.1: an extern that is none: %q, %d", name, e)
	}
	os[62].Funcs[1023].Name = "f0.1"
	if _, name, e := Merge(os); name != "f0.1" || e != api.ErrLinkTwice {
		t.Errorf("P15.1: a function of a name that is taken: %q, %d", name, e)
	}
	os[63].Relocs = []api.Reloc{{}}
	if _, name, e := Merge(os); name != "" || e != api.ErrLinkObject {
		t.Errorf("P15.1: a relocation without a site: %q, %d", name, e)
	}
}

// TestAllOfOneName: as many objects as there may be that all have the same names.
func TestAllOfOneName(t *testing.T) {
	t.Parallel()
	o := api.Object{}
	for k := range 1024 {
		o.Funcs = append(o.Funcs, api.ObjFunc{Name: fmt.Sprintf("f%04d", k), First: k, Count: 1})
		o.Tables = append(o.Tables, array(fmt.Sprintf("t%04d", k), 1))
		o.Text = append(o.Text, api.Insn{Op: 0x95})
	}
	os := slices.Repeat([]api.Object{o}, 64)
	if all, name, e := Merge(os); len(all.Funcs) != 0 || !slices.Equal(all.Tables, o.Tables) || name != "" || e != api.OK {
		t.Errorf("P15.1: 64 alike = %s, %q, %d", short(all), name, e)
	}
}
