package link

import (
	"fmt"
	"math/rand"
	"slices"
	"testing"

	"spindle/api"
)

// inOrder gives the objects in an order: the k-th is the one with the number order[k].
func inOrder(os []api.Object, order []int) []api.Object {
	turned := make([]api.Object, len(os))
	for k, number := range order {
		turned[k] = os[number]
	}
	return turned
}

// orders gives all orders of n things.
func orders(n int) [][]int {
	if n == 0 {
		return [][]int{{}}
	}
	var list [][]int
	for _, order := range orders(n - 1) {
		for k := range n {
			list = append(list, slices.Insert(slices.Clone(order), k, n-1))
		}
	}
	return list
}

// checkAllOrders looks at the objects in each of their orders.
func checkAllOrders(t *testing.T, os []api.Object, entry string) {
	t.Helper()
	for _, order := range orders(len(os)) {
		checkLink(t, inOrder(os, order), entry)
		checkOrder(t, os, order, entry)
	}
}

// known is a function as every order knows it.
type known struct {
	name   string
	object int
}

// meant is what an instruction means: itself but for its Imm where that is a number of the image, and then what that number means.
type meant struct {
	insn  api.Insn
	call  known
	table api.TableDef
}

// meaning gives of each function of an image what its instructions mean, each object's number told by number, and the entry.
func meaning(im api.Image, number func(int) int) (map[known][]meant, known) {
	who := func(k int) known { return known{im.Funcs[k].Name, number(im.Funcs[k].Object)} }
	all := map[known][]meant{}
	for k, f := range im.Funcs {
		body := []meant{}
		for _, i := range im.Text[f.First : f.First+f.Count] {
			m := meant{insn: i}
			switch {
			case i.Op == 0x85 && i.Src == 1:
				m.insn.Imm, m.call = 0, who(i.Imm)
			case i.Op == 0x18 && i.Src == 1:
				m.insn.Imm, m.table = 0, im.Tables[i.Imm]
			}
			body = append(body, m)
		}
		all[who(k)] = body
	}
	return all, who(im.Entry)
}

// checkOrder: of the objects in another order the error and the name are the same, or the images mean the same.
func checkOrder(t *testing.T, os []api.Object, order []int, entry string) {
	t.Helper()
	want, wantName, wantE := Link(os, entry)
	im, name, e := Link(inOrder(os, order), entry)
	if name != wantName || e != wantE || !slices.Equal(im.Tables, want.Tables) || len(im.Funcs) != len(want.Funcs) {
		t.Fatalf("P16.3: %s in the order %v: %s, %q, %d, want %s, %q, %d", short(os), order, short(im), name, e, short(want), wantName, wantE)
	}
	if e != api.OK {
		return
	}
	all, at := meaning(im, func(k int) int { return order[k] })
	wantAll, wantAt := meaning(want, func(k int) int { return k })
	if at != wantAt || len(all) != len(wantAll) {
		t.Fatalf("P16.3: %s in the order %v: entry %v, want %v", short(os), order, at, wantAt)
	}
	for who, body := range wantAll {
		if !slices.Equal(all[who], body) {
			t.Fatalf("P16.3: %s in the order %v: %v means %s, want %s", short(os), order, who, short(all[who]), short(body))
		}
	}
}

// some gives objects of chance, few enough of a name that most lists link, and an entry.
func some(r *rand.Rand) ([]api.Object, string) {
	os := make([]api.Object, r.Intn(7))
	list := []string{"a", "b", "a.", "a0", "A", "_", "zz", "z", "m", "a$b", "B", "ab", "g", "f"}[:2+r.Intn(13)]
	for _, name := range list {
		global, entries := r.Intn(2*len(os)+1), 1+r.Intn(3)
		for k := range os {
			addName(r, &os[k], name, k == global, global < len(os), entries)
		}
	}
	for k := range os {
		fill(r, &os[k])
	}
	entry := list[r.Intn(len(list))]
	if r.Intn(3) > 0 {
		for _, o := range os {
			for _, f := range o.Funcs {
				if f.Global {
					entry = f.Name
				}
			}
		}
	}
	return os, entry
}

// addName gives an object something of a name, or nothing.
func addName(r *rand.Rand, o *api.Object, name string, global, known bool, entries int) {
	n := r.Intn(6)
	switch {
	case global || r.Intn(500) == 0:
		o.Funcs = append(o.Funcs, api.ObjFunc{Name: name, Global: true})
	case n == 0 && known || r.Intn(500) == 0:
		o.Externs = append(o.Externs, name)
	case n == 1:
		o.Funcs = append(o.Funcs, api.ObjFunc{Name: name})
	case n == 2 && !known || r.Intn(500) == 0:
		o.Tables = append(o.Tables, api.TableDef{Name: name, Kind: api.TableHash, Key: 1 + len(name), Value: 9, Entries: entries + r.Intn(50)/49})
	}
}

// fill turns the order of an object's names and gives its functions instructions of chance, with a relocation for each site.
func fill(r *rand.Rand, o *api.Object) {
	r.Shuffle(len(o.Funcs), func(i, j int) { o.Funcs[i], o.Funcs[j] = o.Funcs[j], o.Funcs[i] })
	r.Shuffle(len(o.Tables), func(i, j int) { o.Tables[i], o.Tables[j] = o.Tables[j], o.Tables[i] })
	r.Shuffle(len(o.Externs), func(i, j int) { o.Externs[i], o.Externs[j] = o.Externs[j], o.Externs[i] })
	for k := range o.Funcs {
		f := &o.Funcs[k]
		f.First, f.Count = len(o.Text), 1+r.Intn(5)
		for range f.Count {
			addInsn(r, o)
		}
	}
}

func addInsn(r *rand.Rand, o *api.Object) {
	at := len(o.Text)
	switch n := r.Intn(8); {
	case n < 3:
		o.Text = append(o.Text, api.Insn{Op: 0x85, Src: 1, Imm: -1})
		o.Relocs = append(o.Relocs, api.Reloc{At: at, Kind: api.RelCall, Name: r.Intn(len(o.Funcs) + len(o.Externs))})
	case n < 5 && len(o.Tables) > 0:
		o.Text = append(o.Text, api.Insn{Op: 0x18, Dst: r.Intn(10), Src: 1})
		o.Relocs = append(o.Relocs, api.Reloc{At: at, Kind: api.RelTable, Name: r.Intn(len(o.Tables))})
	default:
		others := []api.Insn{{Op: 0x95}, {Op: 0x85, Imm: 2}, {Op: 0x18, Dst: 1, Imm: -1 << 63}, {Op: 0x18, Imm: -1}, {Op: 0x05, Off: -1}, {Op: 0x06, Imm: 7}, {Op: 0xb7, Dst: 10, Imm: -1}, {Op: 0x0f, Dst: 3, Src: 1}}
		o.Text = append(o.Text, others[r.Intn(len(others))])
	}
}

// TestSome: lists of chance, in some order too.
func TestSome(t *testing.T) {
	t.Parallel()
	r := rand.New(rand.NewSource(16))
	told := map[api.Errno]int{}
	for range 20000 {
		os, entry := some(r)
		told[checkLink(t, os, entry)]++
		checkOrder(t, os, r.Perm(len(os)), entry)
	}
	for _, e := range []api.Errno{api.OK, api.ErrLinkTwice, api.ErrLinkUndefined, api.ErrLinkShape, api.ErrLinkEntry} {
		if told[e] < 100 {
			t.Errorf("only %d lists were %d", told[e], e)
		}
	}
	if len(told) != 5 {
		t.Errorf("told %v", told)
	}
}

// TestOrders: every order of some lists.
func TestOrders(t *testing.T) {
	t.Parallel()
	r := rand.New(rand.NewSource(161))
	linked := 0
	for range 300 {
		os, entry := some(r)
		os = os[:min(len(os), 4)]
		if _, _, e := Link(os, entry); e == api.OK {
			linked++
		}
		checkAllOrders(t, os, entry)
	}
	if linked < 50 {
		t.Errorf("only %d lists linked", linked)
	}
}

// TestFewNames: two objects in which each of three names is nothing, each sort of function, a table or an extern, with each name as the entry.
func TestFewNames(t *testing.T) {
	t.Parallel()
	var each []api.Object
	for k := range 5 * 5 * 5 {
		var o api.Object
		for j, name := range []string{"b", "a", "c"} {
			addSort(&o, name, []int{k % 5, k / 5 % 5, k / 25}[j])
		}
		callAll(&o)
		each = append(each, o)
	}
	told := map[api.Errno]int{}
	for _, o := range each {
		for _, p := range each {
			for _, entry := range []string{"a", "b", "d"} {
				told[checkLink(t, []api.Object{o, p}, entry)]++
			}
		}
	}
	if fmt.Sprint(len(told), told[api.OK] > 0, told[api.ErrLinkEntry] > 0, told[api.ErrLinkTwice] > 0, told[api.ErrLinkUndefined] > 0) != "4 true true true true" {
		t.Errorf("told %v", told)
	}
}

func addSort(o *api.Object, name string, sort int) {
	switch sort {
	case 1, 2:
		o.Funcs = append(o.Funcs, api.ObjFunc{Name: name, Global: sort == 1})
	case 3:
		o.Tables = append(o.Tables, api.TableDef{Name: name, Kind: api.TableArray, Key: 4, Value: 8, Entries: 1})
	case 4:
		o.Externs = append(o.Externs, name)
	}
}

// callAll gives each function of an object a call of all that it can call and an ldmap of each table.
func callAll(o *api.Object) {
	for k := range o.Funcs {
		o.Funcs[k].First = len(o.Text)
		for name := range len(o.Funcs) + len(o.Externs) {
			o.Relocs = append(o.Relocs, api.Reloc{At: len(o.Text), Kind: api.RelCall, Name: name})
			o.Text = append(o.Text, api.Insn{Op: 0x85, Src: 1, Imm: -1})
		}
		for name := range o.Tables {
			o.Relocs = append(o.Relocs, api.Reloc{At: len(o.Text), Kind: api.RelTable, Name: name})
			o.Text = append(o.Text, api.Insn{Op: 0x18, Src: 1})
		}
		o.Funcs[k].Count = len(o.Text) - o.Funcs[k].First
	}
}
