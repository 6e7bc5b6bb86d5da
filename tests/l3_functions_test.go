package tests

import (
	"math"
	"slices"
	"strings"
	"testing"

	"loop.example/g01035/impl"
)

func function(id, parent int, name string) impl.Function {
	return impl.Function{Id: id, Parent: parent, Name: name}
}

// lawTree has two roots, gaps between the Ids, and Names that repeat under other Parents and in other roots.
func lawTree() []impl.Function {
	return []impl.Function{
		function(1, 0, "law"), function(2, 1, "tax"), function(4, 2, "staff"), function(5, 1, "roads"),
		function(9, 0, "tax"), function(10, 9, "tax"), function(11, 9, "law"), function(20, 5, "staff"),
	}
}

// onePath is a tree in which each Function but the first one is under the one before it.
func onePath(count int) []impl.Function {
	var tree []impl.Function
	for i := range count {
		tree = append(tree, function(i+1, i, "down"))
	}
	return tree
}

// onlyRoots is a tree of roots that end with the greatest Id.
func onlyRoots(count int) []impl.Function {
	var tree []impl.Function
	for i := range count {
		tree = append(tree, function(100-count+i, 0, strings.Repeat("r", 1+i%8)+string(rune('a'+i/8))))
	}
	return tree
}

// treesOfAllShapes has each shape of at most 6 Functions; a Name repeats under every Parent.
func treesOfAllShapes() [][]impl.Function {
	shapes := [][]impl.Function{nil}
	for first := 0; len(shapes[first]) < 6; first++ {
		tree := shapes[first]
		id := 3*len(tree) + 1 + len(tree)%2
		for under := -1; under < len(tree); under++ {
			parent := 0
			if under >= 0 {
				parent = tree[under].Id
			}
			siblings := 0
			for _, f := range tree {
				if f.Parent == parent {
					siblings++
				}
			}
			shapes = append(shapes, append(slices.Clone(tree), function(id, parent, "abcdef"[siblings:siblings+1])))
		}
	}
	return shapes
}

func someTrees() [][]impl.Function {
	return [][]impl.Function{
		nil, {}, lawTree(), onePath(1), onePath(impl.MaxFunctions), onlyRoots(1), onlyRoots(impl.MaxFunctions),
		{function(99, 0, "abcdefghij")}, {function(98, 0, "a"), function(99, 98, "a")}, {function(1, 0, "z"), function(99, 1, "z")},
	}
}

// wrongFunctions are invalid by themselves.
func wrongFunctions() []impl.Function {
	wrong := []impl.Function{
		{}, function(0, 0, "a"), function(100, 0, "a"), function(100, 1, "a"), function(5, 5, "a"), function(5, 6, "a"), function(5, 99, "a"),
		function(5, -1, "a"), function(0, -1, "a"), function(1, 1, "a"), function(-1, -2, "a"), function(5, 0, ""), function(5, 0, "abcdefghijk"),
		function(5, 0, "a/b"), function(5, 0, "A"), function(5, 0, "aBc"), function(5, 0, "a b"), function(5, 0, "a1"), function(5, 0, "/"),
		function(5, 0, "ä"), function(5, 0, "a\x00"), function(5, 0, "\xff"), function(5, 0, strings.Repeat("a", 1<<20)),
	}
	for _, n := range extremes {
		wrong = append(wrong, function(n, 0, "a"), function(50, n, "a"), function(n, n, "a"), function(n, n-1, "a"))
	}
	return wrong
}

// wrongTrees are lists that are no trees although each Function in them is valid.
func wrongTrees() [][]impl.Function {
	return [][]impl.Function{
		{function(2, 1, "a")},
		{function(1, 0, "a"), function(3, 2, "a")},
		{function(1, 0, "a"), function(2, 1, "b"), function(9, 8, "c")},
		{function(2, 1, "a"), function(3, 0, "b")},
		{function(5, 0, "a"), function(5, 0, "a")},
		{function(5, 0, "a"), function(5, 0, "b")},
		{function(1, 0, "a"), function(5, 0, "b"), function(5, 1, "b")},
		{function(2, 0, "a"), function(1, 0, "b")},
		{function(1, 0, "a"), function(3, 1, "b"), function(2, 1, "c")},
		{function(2, 1, "b"), function(1, 0, "a")},
		{function(1, 0, "a"), function(2, 0, "a")},
		{function(1, 0, "a"), function(2, 0, "b"), function(3, 0, "a")},
		{function(1, 0, "a"), function(2, 1, "b"), function(3, 1, "b")},
		{function(1, 0, "a"), function(2, 1, "b"), function(3, 0, "c"), function(4, 1, "b")},
		append(onePath(impl.MaxFunctions), function(16, 15, "a")),
		append(onePath(impl.MaxFunctions), function(16, 0, "a")),
		append(onePath(impl.MaxFunctions), function(16, 0, "a"), function(17, 0, "b")),
		onlyRoots(impl.MaxFunctions + 1),
	}
}

// wordly looks at a Name without the program.
func wordly(name string) bool {
	return len(name) >= 1 && len(name) <= 10 && strings.Trim(name, "abcdefghijklmnopqrstuvwxyz") == ""
}

func validFunction(f impl.Function) bool {
	return f.Id > 0 && f.Id < 100 && (f.Parent == 0 || f.Parent > 0 && f.Parent < f.Id) && wordly(f.Name)
}

// isTreeByPairs compares each Function with each other, wherever they stand.
func isTreeByPairs(tree []impl.Function) bool {
	for i, f := range tree {
		if !validFunction(f) {
			return false
		}
		occurs := f.Parent == 0
		for j, g := range tree {
			if i < j && f.Id >= g.Id || i != j && f.Parent == g.Parent && f.Name == g.Name {
				return false
			}
			occurs = occurs || f.Parent == g.Id
		}
		if !occurs {
			return false
		}
	}
	return len(tree) <= 15
}

func byId(tree []impl.Function, id int) (impl.Function, bool) {
	for _, f := range tree {
		if f.Id == id {
			return f, true
		}
	}
	return impl.Function{}, false
}

// pathUp follows the Parents, each of which is looked for anew.
func pathUp(tree []impl.Function, id int) ([]int, []string) {
	f, found := byId(tree, id)
	if !found {
		return nil, nil
	}
	ids, names := pathUp(tree, f.Parent)
	return append(ids, id), append(names, f.Name)
}

func checkPath(t *testing.T, tree []impl.Function, id int, want ...int) {
	t.Helper()
	if path, ok := impl.PathTo(tree, id); !ok || !slices.Equal(path, want) {
		t.Errorf("PathTo(%v, %d) = %v, %v", tree, id, path, ok)
	}
}

func checkUnder(t *testing.T, tree []impl.Function, id int, want ...int) {
	t.Helper()
	if under, ok := impl.UnderOf(tree, id); !ok || !slices.Equal(under, want) {
		t.Errorf("UnderOf(%v, %d) = %v, %v", tree, id, under, ok)
	}
}

func checkShared(t *testing.T, tree []impl.Function, a, b int, want ...int) {
	t.Helper()
	for _, pair := range [][2]int{{a, b}, {b, a}} {
		if path, ok := impl.SharedPath(tree, pair[0], pair[1]); !ok || !slices.Equal(path, want) {
			t.Errorf("SharedPath(%v, %d, %d) = %v, %v", tree, pair[0], pair[1], path, ok)
		}
	}
}

func checkNotShared(t *testing.T, tree []impl.Function, a, b int) {
	t.Helper()
	for _, pair := range [][2]int{{a, b}, {b, a}} {
		if path, ok := impl.SharedPath(tree, pair[0], pair[1]); ok || len(path) != 0 {
			t.Errorf("SharedPath(%s, %d, %d) = %v, %v", brief(tree), pair[0], pair[1], path, ok)
		}
	}
}

// checkNamed looks that an Id has a NamedPath and is found by it.
func checkNamed(t *testing.T, tree []impl.Function, id int, want string) {
	t.Helper()
	if path, ok := impl.NamedPath(tree, id); !ok || path != want {
		t.Errorf("NamedPath(%v, %d) = %q, %v", tree, id, path, ok)
	}
	if found, ok := impl.FindPath(tree, want); !ok || found != id {
		t.Errorf("FindPath(%v, %q) = %d, %v", tree, want, found, ok)
	}
}

func checkNotFound(t *testing.T, tree []impl.Function, path string) {
	t.Helper()
	if id, ok := impl.FindPath(tree, path); ok || id != 0 {
		t.Errorf("FindPath(%s, %.80q) = %d, %v", brief(tree), path, id, ok)
	}
}

func checkAdded(t *testing.T, tree []impl.Function, parent int, name string, wantId int) {
	t.Helper()
	want := append(slices.Clone(tree), function(wantId, parent, name))
	if longer, id, ok := impl.AddFunction(tree, parent, name); !ok || id != wantId || !slices.Equal(longer, want) {
		t.Errorf("AddFunction(%v, %d, %q) = %v, %d, %v", tree, parent, name, longer, id, ok)
	}
}

func checkNotAdded(t *testing.T, tree []impl.Function, parent int, name string) {
	t.Helper()
	if longer, id, ok := impl.AddFunction(tree, parent, name); ok || id != 0 || len(longer) != 0 {
		t.Errorf("AddFunction(%s, %d, %.20q) = %v, %d, %v", brief(tree), parent, name, longer, id, ok)
	}
}

func checkMoved(t *testing.T, tree []impl.Function, id, parent int) {
	t.Helper()
	want := slices.Clone(tree)
	for i := range want {
		if want[i].Id == id {
			want[i].Parent = parent
		}
	}
	if moved, ok := impl.MoveUnder(tree, id, parent); !ok || !slices.Equal(moved, want) {
		t.Errorf("MoveUnder(%v, %d, %d) = %v, %v", tree, id, parent, moved, ok)
	}
}

func checkNotMoved(t *testing.T, tree []impl.Function, id, parent int) {
	t.Helper()
	if moved, ok := impl.MoveUnder(tree, id, parent); ok || len(moved) != 0 {
		t.Errorf("MoveUnder(%s, %d, %d) = %v, %v", brief(tree), id, parent, moved, ok)
	}
}

func checkWithout(t *testing.T, tree []impl.Function, id int) {
	t.Helper()
	var want []impl.Function
	for _, f := range tree {
		if f.Id != id {
			want = append(want, f)
		}
	}
	if shorter, ok := impl.WithoutLeaf(tree, id); !ok || !slices.Equal(shorter, want) {
		t.Errorf("WithoutLeaf(%v, %d) = %v, %v", tree, id, shorter, ok)
	}
}

func checkNotWithout(t *testing.T, tree []impl.Function, id int) {
	t.Helper()
	if shorter, ok := impl.WithoutLeaf(tree, id); ok || len(shorter) != 0 {
		t.Errorf("WithoutLeaf(%s, %d) = %v, %v", brief(tree), id, shorter, ok)
	}
}

func checkDeepest(t *testing.T, tree []impl.Function, depth int, want ...int) {
	t.Helper()
	if ids, n, ok := impl.DeepestFunctions(tree); !ok || n != depth || !slices.Equal(ids, want) {
		t.Errorf("DeepestFunctions(%v) = %v, %d, %v", tree, ids, n, ok)
	}
}

// checkNoFunction hands an Id that does not occur to each function that takes one.
func checkNoFunction(t *testing.T, tree []impl.Function, id int) {
	t.Helper()
	if path, ok := impl.PathTo(tree, id); ok || len(path) != 0 {
		t.Errorf("PathTo(%s, %d) = %v, %v", brief(tree), id, path, ok)
	}
	if under, ok := impl.UnderOf(tree, id); ok || len(under) != 0 {
		t.Errorf("UnderOf(%s, %d) = %v, %v", brief(tree), id, under, ok)
	}
	if path, ok := impl.NamedPath(tree, id); ok || path != "" {
		t.Errorf("NamedPath(%s, %d) = %q, %v", brief(tree), id, path, ok)
	}
	checkNotShared(t, tree, id, id)
	for _, f := range tree {
		checkNotShared(t, tree, id, f.Id)
		checkNotMoved(t, tree, id, f.Parent)
	}
	checkNotMoved(t, tree, id, 0)
	checkNotWithout(t, tree, id)
	if id != 0 {
		checkNotAdded(t, tree, id, "new")
		for _, f := range tree {
			checkNotMoved(t, tree, f.Id, id)
		}
	}
}

// checkNoTree hands a list that is no tree to each function.
func checkNoTree(t *testing.T, list []impl.Function) {
	t.Helper()
	if impl.IsTree(list) {
		t.Errorf("%s is a tree", brief(list))
	}
	for _, id := range []int{0, 1, 2, 3, 5, 9, 16, 50, 98, 99} {
		checkNoFunction(t, list, id)
		checkNotAdded(t, list, id, "new")
		checkNotMoved(t, list, id, 1)
	}
	for _, f := range list[:min(len(list), 20)] {
		checkNoFunction(t, list, f.Id)
		checkNotFound(t, list, f.Name)
	}
	checkNotFound(t, list, "a/b")
	checkNotFound(t, list, "down/down")
	if ids, depth, ok := impl.DeepestFunctions(list); ok || depth != 0 || len(ids) != 0 {
		t.Errorf("DeepestFunctions(%s) = %v, %d, %v", brief(list), ids, depth, ok)
	}
}

func TestPromise3IsFunction(t *testing.T) {
	for _, id := range []int{-1, 0, 1, 2, 50, 98, 99, 100, 101} {
		for _, parent := range []int{-99, -1, 0, 1, 2, 49, 50, 51, 97, 98, 99, 100, 101} {
			for _, name := range []string{"", "a", "z", "law", "abcdefghi", "abcdefghij", "zzzzzzzzzz", "abcdefghijk"} {
				f := function(id, parent, name)
				if impl.IsFunction(f) != validFunction(f) {
					t.Errorf("IsFunction(%v)", f)
				}
			}
		}
	}
	for _, f := range wrongFunctions() {
		if impl.IsFunction(f) {
			t.Errorf("IsFunction(%s)", brief(f))
		}
	}
}

func TestPromise3NamesAreWords(t *testing.T) {
	for c := range 256 {
		sign := string([]byte{byte(c)})
		want := c >= 'a' && c <= 'z'
		for _, name := range []string{sign, sign + "aw", "l" + sign + "w", "la" + sign, "abcdefghi" + sign} {
			if impl.IsFunction(function(5, 0, name)) != want || impl.IsTree([]impl.Function{function(5, 0, name)}) != want {
				t.Errorf("a Function of the Name %q", name)
			}
			if _, _, ok := impl.AddFunction(nil, 0, name); ok != want {
				t.Errorf("AddFunction(nil, 0, %q)", name)
			}
		}
	}
	for length := range 20 {
		name := strings.Repeat("w", length)
		if impl.IsFunction(function(5, 0, name)) != (length >= 1 && length <= 10) {
			t.Error("a Name of", length, "letters")
		}
	}
}

func TestPromise3IsTree(t *testing.T) {
	for _, tree := range append(someTrees(), treesOfAllShapes()...) {
		if !isTreeByPairs(tree) {
			t.Fatal("the test has a wrong tree", tree)
		}
		if !impl.IsTree(tree) {
			t.Errorf("%v is no tree", tree)
		}
	}
}

func TestPromise3IsTreeOfAllShortLists(t *testing.T) {
	var all []impl.Function
	for id := 0; id <= 4; id++ {
		for parent := -1; parent <= 4; parent++ {
			all = append(all, function(id, parent, "a"), function(id, parent, "b"))
		}
	}
	all = append(all, function(3, 0, ""), function(99, 0, "a"), function(100, 0, "a"))
	look := func(list ...impl.Function) {
		if impl.IsTree(list) != isTreeByPairs(list) {
			t.Errorf("IsTree(%v)", list)
		}
	}
	for _, f := range all {
		look(f)
		for _, g := range all {
			look(f, g)
			for _, h := range all {
				look(f, g, h)
			}
		}
	}
}

func TestPromise3ListsThatAreNoTrees(t *testing.T) {
	for _, list := range wrongTrees() {
		for _, f := range list {
			if !impl.IsFunction(f) {
				t.Errorf("%v is no Function", f)
			}
		}
		checkNoTree(t, list)
	}
	for _, f := range wrongFunctions() {
		checkNoTree(t, []impl.Function{f})
		checkNoTree(t, []impl.Function{function(1, 0, "law"), f})
		checkNoTree(t, []impl.Function{f, function(99, 0, "law")})
		checkNoTree(t, []impl.Function{function(1, 0, "law"), f, function(99, 1, "law")})
	}
	checkNoTree(t, make([]impl.Function, 1000))
}

func TestPromise3MostFunctions(t *testing.T) {
	for count := range 40 {
		want := count <= 15
		if impl.IsTree(onePath(count)) != want || impl.IsTree(onlyRoots(count)) != want {
			t.Error("IsTree of", count, "Functions")
		}
	}
	if impl.IsTree(make([]impl.Function, 1<<20)) {
		t.Error("very many are a tree")
	}
}

func TestPromise3TheEmptyTree(t *testing.T) {
	for _, empty := range [][]impl.Function{nil, {}, lawTree()[:0]} {
		if !impl.IsTree(empty) {
			t.Error("no Functions are no tree")
		}
		for _, id := range append([]int{0, 1, 99, 100}, extremes...) {
			checkNoFunction(t, empty, id)
		}
		checkNotFound(t, empty, "")
		checkNotFound(t, empty, "law")
		checkNotFound(t, empty, "/")
		checkAdded(t, empty, 0, "law", 1)
		checkNotAdded(t, empty, 1, "law")
		checkDeepest(t, empty, 0)
	}
}

func TestPromise3PathTo(t *testing.T) {
	tree := lawTree()
	checkPath(t, tree, 1, 1)
	checkPath(t, tree, 4, 1, 2, 4)
	checkPath(t, tree, 9, 9)
	checkPath(t, tree, 11, 9, 11)
	checkPath(t, tree, 20, 1, 5, 20)
	checkPath(t, onePath(15), 15, 1, 2, 3, 4, 5, 6, 7, 8, 9, 10, 11, 12, 13, 14, 15)
	checkPath(t, onlyRoots(15), 99, 99)
	for _, id := range append([]int{0, 3, 6, 8, 12, 19, 21, 99, 100}, extremes...) {
		checkNoFunction(t, tree, id)
	}
}

func TestPromise3UnderOf(t *testing.T) {
	tree := lawTree()
	checkUnder(t, tree, 1, 1, 2, 4, 5, 20)
	checkUnder(t, tree, 2, 2, 4)
	checkUnder(t, tree, 5, 5, 20)
	checkUnder(t, tree, 9, 9, 10, 11)
	checkUnder(t, tree, 20, 20)
	checkUnder(t, onePath(15), 13, 13, 14, 15)
	checkUnder(t, onlyRoots(15), 85, 85)
}

func TestPromise3SharedPath(t *testing.T) {
	tree := lawTree()
	checkShared(t, tree, 4, 5, 1)
	checkShared(t, tree, 4, 20, 1)
	checkShared(t, tree, 4, 4, 1, 2, 4)
	checkShared(t, tree, 1, 1, 1)
	checkShared(t, tree, 4, 2, 1, 2)
	checkShared(t, tree, 4, 1, 1)
	checkShared(t, tree, 10, 11, 9)
	checkShared(t, tree, 1, 9)
	checkShared(t, tree, 4, 11)
	checkShared(t, tree, 2, 10)
	checkNotShared(t, tree, 4, 3)
	checkNotShared(t, tree, 4, 0)
	checkNotShared(t, tree, 0, 0)
}

func TestPromise3NamedPath(t *testing.T) {
	tree := lawTree()
	for id, want := range map[int]string{
		1: "law", 2: "law/tax", 4: "law/tax/staff", 5: "law/roads", 9: "tax", 10: "tax/tax", 11: "tax/law", 20: "law/roads/staff",
	} {
		checkNamed(t, tree, id, want)
	}
	long := onePath(15)
	for i := range long {
		long[i].Name = "abcdefghij"
	}
	checkNamed(t, long, 15, strings.Repeat("abcdefghij/", 14)+"abcdefghij")
}

func TestPromise3FindPathRefuses(t *testing.T) {
	tree := lawTree()
	for _, path := range []string{
		"", "/", "//", "/law", "law/", "/law/", "law//tax", "law/tax/", "law/tax//staff", "//law", "law//",
		"staff", "roads", "tax/staff", "tax/roads", "tax/tax/tax", "tax/tax/staff", "law/law", "law/staff", "law/tax/roads", "law/tax/staff/staff",
		"la", "aw", "l", "lawn", "law/ta", "law/taxe", "law/tax/staf", "law/tax/staffs", "aw/tax", "law/ax", "ax/law",
		"Law", "LAW", "law/Tax", " law", "law ", "law /tax", "law/ tax", "law\\tax", "law.tax", "law\x00", "law\n", "\xff", "1", "law/2",
		"law/tax,staff", "nothing", "law/nothing", "law/tax/staff/nothing", strings.Repeat("/", impl.MaxString), "law/" + strings.Repeat("a", impl.MaxString),
		"law" + strings.Repeat("/law", 10000), strings.Repeat("law", 100000),
	} {
		checkNotFound(t, tree, path)
	}
}

func TestPromise3FindPathOfShortTexts(t *testing.T) {
	tree := []impl.Function{
		function(1, 0, "a"), function(2, 1, "a"), function(3, 1, "b"), function(4, 0, "b"), function(5, 4, "ab"), function(6, 2, "b"), function(7, 0, "ab"),
	}
	ids := map[string]int{"a": 1, "a/a": 2, "a/b": 3, "b": 4, "b/ab": 5, "a/a/b": 6, "ab": 7}
	for _, path := range textsOver("ab/", 7) {
		want, there := ids[path]
		if id, ok := impl.FindPath(tree, path); ok != there || id != want {
			t.Errorf("FindPath(%q) = %d, %v", path, id, ok)
		}
	}
}

func TestPromise3PathsOfAllShapes(t *testing.T) {
	for _, tree := range append(someTrees(), treesOfAllShapes()...) {
		for _, f := range tree {
			path, names := pathUp(tree, f.Id)
			checkPath(t, tree, f.Id, path...)
			checkNamed(t, tree, f.Id, strings.Join(names, "/"))
			var under []int
			for _, g := range tree {
				other, _ := pathUp(tree, g.Id)
				if slices.Contains(other, f.Id) {
					under = append(under, g.Id)
				}
				shared := 0
				for shared < len(path) && shared < len(other) && path[shared] == other[shared] {
					shared++
				}
				checkShared(t, tree, f.Id, g.Id, path[:shared]...)
			}
			checkUnder(t, tree, f.Id, under...)
		}
		checkNoFunction(t, tree, 0)
		checkNoFunction(t, tree, 100)
	}
}

func TestPromise3DeepestFunctions(t *testing.T) {
	checkDeepest(t, lawTree(), 3, 4, 20)
	checkDeepest(t, lawTree()[:6], 3, 4)
	checkDeepest(t, lawTree()[:2], 2, 2)
	checkDeepest(t, onePath(1), 1, 1)
	checkDeepest(t, onePath(15), 15, 15)
	checkDeepest(t, onlyRoots(3), 1, 97, 98, 99)
	checkDeepest(t, []impl.Function{function(98, 0, "a"), function(99, 98, "a")}, 2, 99)
	for _, tree := range append(someTrees(), treesOfAllShapes()...) {
		depths := map[int][]int{}
		greatest := 0
		for _, f := range tree {
			path, _ := pathUp(tree, f.Id)
			depths[len(path)] = append(depths[len(path)], f.Id)
			greatest = max(greatest, len(path))
		}
		checkDeepest(t, tree, greatest, depths[greatest]...)
	}
}

func TestPromise3AddFunction(t *testing.T) {
	tree := lawTree()
	checkAdded(t, tree, 0, "roads", 21)
	checkAdded(t, tree, 5, "tax", 21)
	checkAdded(t, tree, 20, "staff", 21)
	checkAdded(t, tree, 1, "law", 21)
	checkNotAdded(t, tree, 0, "law")
	checkNotAdded(t, tree, 0, "tax")
	checkNotAdded(t, tree, 1, "tax")
	checkNotAdded(t, tree, 5, "staff")
	for _, parent := range append([]int{3, 6, 12, 21, 22, 99, 100}, extremes...) {
		checkNotAdded(t, tree, parent, "new")
	}
	for _, name := range []string{"", "abcdefghijk", "New", "a/b", " ", "law ", "\xff", "new1"} {
		checkNotAdded(t, tree, 0, name)
		checkNotAdded(t, tree, 5, name)
		checkNotAdded(t, nil, 0, name)
	}
	checkAdded(t, tree, 5, "abcdefghij", 21)
}

func TestPromise3AddFunctionAtTheLimits(t *testing.T) {
	checkAdded(t, onePath(14), 14, "last", 15)
	checkAdded(t, onePath(14), 0, "last", 15)
	checkNotAdded(t, onePath(15), 15, "last")
	checkNotAdded(t, onePath(15), 0, "last")
	checkAdded(t, []impl.Function{function(98, 0, "a")}, 98, "b", 99)
	checkAdded(t, []impl.Function{function(98, 0, "a")}, 0, "b", 99)
	checkNotAdded(t, []impl.Function{function(99, 0, "a")}, 99, "b")
	checkNotAdded(t, []impl.Function{function(99, 0, "a")}, 0, "b")
	checkNotAdded(t, []impl.Function{function(1, 0, "a"), function(99, 1, "a")}, 1, "b")
	checkNotAdded(t, onlyRoots(2), 98, "b")
}

func TestPromise3MoveUnder(t *testing.T) {
	tree := lawTree()
	checkMoved(t, tree, 4, 1)
	checkMoved(t, tree, 4, 0)
	checkMoved(t, tree, 10, 2)
	checkMoved(t, tree, 20, 11)
	checkMoved(t, tree, 9, 0)
	checkMoved(t, tree, 9, 5)
	checkNotMoved(t, tree, 2, 0)
	checkNotMoved(t, tree, 9, 1)
	checkNotMoved(t, tree, 10, 0)
	checkNotMoved(t, tree, 11, 0)
	checkNotMoved(t, tree, 20, 2)
	checkNotMoved(t, tree, 2, 4)
	checkNotMoved(t, tree, 1, 20)
	checkNotMoved(t, tree, 2, 9)
	checkNotMoved(t, onePath(2), 1, 2)
	for _, f := range tree {
		checkMoved(t, tree, f.Id, f.Parent)
		checkNotMoved(t, tree, f.Id, f.Id)
		for _, parent := range append([]int{3, 6, 12, 21, 99, 100}, extremes...) {
			checkNotMoved(t, tree, f.Id, parent)
		}
	}
}

func TestPromise3WithoutLeaf(t *testing.T) {
	tree := lawTree()
	for _, id := range []int{4, 10, 11, 20} {
		checkWithout(t, tree, id)
	}
	for _, id := range []int{1, 2, 5, 9} {
		checkNotWithout(t, tree, id)
	}
	checkWithout(t, onePath(1), 1)
	checkWithout(t, onePath(15), 15)
	checkNotWithout(t, onePath(15), 14)
	for _, f := range onlyRoots(15) {
		checkWithout(t, onlyRoots(15), f.Id)
	}
}

func TestPromise3ChangesOfAllShapes(t *testing.T) {
	for _, tree := range append(someTrees(), treesOfAllShapes()...) {
		for _, f := range append(tree[:len(tree):len(tree)], function(0, 0, ""), function(2, 0, "")) {
			if _, found := byId(tree, f.Id); !found {
				checkNotMoved(t, tree, f.Id, 0)
				continue
			}
			for parent := -1; parent <= 20; parent++ {
				moved := slices.Clone(tree)
				for i := range moved {
					if moved[i].Id == f.Id {
						moved[i].Parent = parent
					}
				}
				if isTreeByPairs(moved) {
					checkMoved(t, tree, f.Id, parent)
				} else {
					checkNotMoved(t, tree, f.Id, parent)
				}
			}
			if slices.ContainsFunc(tree, func(g impl.Function) bool { return g.Parent == f.Id }) {
				checkNotWithout(t, tree, f.Id)
			} else {
				checkWithout(t, tree, f.Id)
			}
		}
		checkAllAdded(t, tree)
	}
}

// checkAllAdded adds a Function of several Names under each Parent that might occur, and takes it away again.
func checkAllAdded(t *testing.T, tree []impl.Function) {
	id := 1
	if len(tree) > 0 {
		id = tree[len(tree)-1].Id + 1
	}
	for parent := -1; parent <= 20; parent++ {
		for _, name := range []string{"a", "b", "law", "down", ""} {
			if !isTreeByPairs(append(tree[:len(tree):len(tree)], function(id, parent, name))) {
				checkNotAdded(t, tree, parent, name)
				continue
			}
			checkAdded(t, tree, parent, name, id)
			longer, _, _ := impl.AddFunction(tree, parent, name)
			if shorter, ok := impl.WithoutLeaf(longer, id); !ok || !slices.Equal(shorter, tree) {
				t.Errorf("WithoutLeaf(%v, %d) = %v, %v", longer, id, shorter, ok)
			}
		}
	}
}

// TestPromise3NoListBecomesATree has lists that are no trees, and would be some after the change.
func TestPromise3NoListBecomesATree(t *testing.T) {
	checkNotMoved(t, []impl.Function{function(1, 0, "a"), function(2, 0, "a")}, 2, 1)
	checkNotMoved(t, []impl.Function{function(1, 0, "a"), function(3, 2, "a")}, 3, 1)
	checkNotMoved(t, []impl.Function{function(1, 0, "a"), function(3, 3, "b")}, 3, 0)
	checkNotWithout(t, []impl.Function{function(1, 0, "a"), function(2, 0, "a")}, 2)
	checkNotWithout(t, []impl.Function{function(1, 0, "a"), function(3, 2, "a")}, 3)
	checkNotWithout(t, []impl.Function{function(1, 0, "a"), function(1, 0, "b")}, 1)
	checkNotWithout(t, []impl.Function{function(0, 0, "a")}, 0)
	checkNotWithout(t, []impl.Function{function(100, 0, "a")}, 100)
	checkNotWithout(t, append(onePath(15), function(16, 15, "a")), 16)
	checkNotAdded(t, []impl.Function{function(3, 2, "a")}, 0, "b")
}

// useTree calls each function that takes a tree.
func useTree(tree []impl.Function, ids []int, text string) {
	for _, id := range ids {
		impl.IsFunction(function(id, id-1, text))
		impl.PathTo(tree, id)
		impl.UnderOf(tree, id)
		impl.NamedPath(tree, id)
		impl.WithoutLeaf(tree, id)
		impl.AddFunction(tree, id, text)
		for _, other := range ids {
			impl.SharedPath(tree, id, other)
			impl.MoveUnder(tree, id, other)
		}
	}
	impl.IsTree(tree)
	impl.FindPath(tree, text)
	impl.DeepestFunctions(tree)
}

func TestPromise29FunctionsReturnForAllArguments(t *testing.T) {
	ids := append([]int{0, 1, 2, 15, 16, 98, 99, 100}, extremes...)
	lists := append(someTrees(), wrongTrees()...)
	for _, f := range wrongFunctions() {
		lists = append(lists, []impl.Function{f}, []impl.Function{function(1, 0, "law"), f, f, function(99, 1, "law")})
	}
	for _, list := range lists {
		for _, text := range []string{"", "new", "law/tax", "\xff/", strings.Repeat("/", impl.MaxString+1)} {
			useTree(list, ids, text)
		}
	}
	useTree(make([]impl.Function, 1<<16), ids, "law")
	useTree(lawTree(), []int{math.MinInt, math.MaxInt}, strings.Repeat("/", 1<<20))
}

func TestPromise29TreesAreNotModified(t *testing.T) {
	ids := []int{-1, 0, 1, 2, 3, 4, 5, 9, 10, 11, 15, 20, 99}
	trees := append(someTrees(), wrongTrees()...)
	for length := range len(lawTree()) {
		trees = append(trees, lawTree()[:length])
	}
	for _, tree := range trees {
		length, all := len(tree), tree[:cap(tree)]
		kept := slices.Clone(all)
		for _, text := range []string{"new", "law", "law/tax", ""} {
			useTree(tree, ids, text)
		}
		if !slices.Equal(all, kept) {
			t.Errorf("the tree of %d Functions changed to %v", length, all)
		}
	}
}

func TestPromise29FunctionsBehindTheLengthAreNotUsed(t *testing.T) {
	all := lawTree()
	for length := range all {
		tree := all[:length]
		for _, f := range all[length:] {
			checkNoFunction(t, tree, f.Id)
		}
		for _, f := range tree {
			path, _ := pathUp(all, f.Id)
			checkPath(t, tree, f.Id, path...)
		}
	}
	for i := 2; i < len(all); i++ {
		all[i] = function(-1, -1, "?")
	}
	checkUnder(t, all[:2], 1, 1, 2)
	checkAdded(t, all[:2], 2, "new", 3)
	checkDeepest(t, all[:2], 2, 2)
	if !impl.IsTree(all[:2]) || impl.IsTree(all[:3]) {
		t.Error("the length of a tree is not kept to")
	}
}

// scribbleTree overwrites a list of Functions as far as its memory reaches.
func scribbleTree(list []impl.Function) {
	all := list[:cap(list)]
	for i := range all {
		all[i] = function(-7, -7, "?")
	}
}

// checkTreeUnshared looks that neither a tree nor a second result changes with the memory of the first one.
func checkTreeUnshared(t *testing.T, length int, act func([]impl.Function) ([]impl.Function, bool)) {
	t.Helper()
	all := lawTree()
	tree := all[:length]
	first, ok := act(tree)
	second, fine := act(tree)
	want := slices.Clone(second)
	scribbleTree(first)
	if !ok || !fine || !slices.Equal(all, lawTree()) || !slices.Equal(second, want) {
		t.Errorf("a result of %d Functions shares memory: %v, %v", length, all, second)
	}
	scribbleTree(all)
	if !slices.Equal(second, want) {
		t.Errorf("an argument of %d Functions shares memory: %v", length, second)
	}
}

func TestPromise29TreesShareNoMemory(t *testing.T) {
	for length := range len(lawTree()) + 1 {
		checkTreeUnshared(t, length, func(tree []impl.Function) ([]impl.Function, bool) {
			longer, _, ok := impl.AddFunction(tree, 0, "new")
			return longer, ok
		})
		for _, f := range lawTree()[:length] {
			checkTreeUnshared(t, length, func(tree []impl.Function) ([]impl.Function, bool) { return impl.MoveUnder(tree, f.Id, f.Parent) })
		}
	}
	for _, id := range []int{4, 10, 11, 20} {
		checkTreeUnshared(t, 8, func(tree []impl.Function) ([]impl.Function, bool) { return impl.WithoutLeaf(tree, id) })
	}
	checkTreeUnshared(t, 1, func(tree []impl.Function) ([]impl.Function, bool) { return impl.WithoutLeaf(tree, 1) })
}

func TestPromise29SuccessiveTreesShareNoMemory(t *testing.T) {
	base, _, _ := impl.AddFunction(lawTree(), 5, "new")
	left, _, _ := impl.AddFunction(base, 0, "left")
	right, _, _ := impl.AddFunction(base, 0, "right")
	checkNamed(t, left, 22, "left")
	checkNamed(t, right, 22, "right")
	shorter, _ := impl.WithoutLeaf(left, 22)
	other, _, _ := impl.AddFunction(shorter, 0, "other")
	checkNamed(t, left, 22, "left")
	checkNamed(t, other, 22, "other")
	checkNotFound(t, base, "left")
}

func TestPromise29PathsShareNoMemory(t *testing.T) {
	tree := lawTree()
	for _, act := range []func() ([]int, bool){
		func() ([]int, bool) { return impl.PathTo(tree, 4) },
		func() ([]int, bool) { return impl.UnderOf(tree, 1) },
		func() ([]int, bool) { return impl.SharedPath(tree, 4, 4) },
		func() ([]int, bool) { return impl.SharedPath(tree, 4, 5) },
		func() ([]int, bool) { ids, _, ok := impl.DeepestFunctions(tree); return ids, ok },
	} {
		first, _ := act()
		second, ok := act()
		want := slices.Clone(second)
		all := first[:cap(first)]
		for i := range all {
			all[i] = -7
		}
		if !ok || !slices.Equal(second, want) || !slices.Equal(tree, lawTree()) {
			t.Errorf("two results share memory: %v, %v", second, want)
		}
	}
}
