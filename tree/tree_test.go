package tree_test

import (
	"bytes"
	"crypto/sha256"
	"encoding/binary"
	"encoding/hex"
	"fmt"
	"math"
	"slices"
	"strings"
	"testing"

	"sealwright/tree"
)

const nodeSize = 16

// widths are the numbers of leaves over which there are trees; the index of each is the number of levels above its leaves.
var widths = []int{1, 2, 4, 8}

// badIndices are indices of which no tree has a leaf, although the lowest bits of some of them are those of one.
var badIndices = []int{-1, -2, -4, -7, -8, -9, -256, 8, 9, 15, 16, 255, 256, 1 << 16, 1 << 32, 1<<32 + 1, math.MinInt, math.MinInt + 1, math.MaxInt}

// pattern returns n bytes that differ from their neighbours.
func pattern(n int) []byte {
	b := make([]byte, n)
	for i := range b {
		b[i] = byte(1 + i%251)
	}
	return b
}

// fields returns the bytes of strings.
func fields(texts ...string) [][]byte {
	var all [][]byte
	for _, text := range texts {
		all = append(all, []byte(text))
	}
	return all
}

// letters returns n leaves of one letter each, from a on.
func letters(n int) [][]byte {
	return fields(strings.Split("abcdefghijklmnopqrstuvwxyz"[:n], "")...)
}

// wantParent returns node i of level h + 1.
func wantParent(h, i int, left, right []byte) []byte {
	frame := []byte{3, 0, 0, 0, 2, byte(h), byte(i)}
	frame = append(binary.BigEndian.AppendUint32(frame, uint32(len(left))), left...)
	frame = append(binary.BigEndian.AppendUint32(frame, uint32(len(right))), right...)
	sum := sha256.Sum256(frame)
	return sum[:nodeSize]
}

// wantNode returns node i of level h of the tree over leaves.
func wantNode(h, i int, leaves [][]byte) []byte {
	if h == 0 {
		return leaves[i]
	}
	return wantParent(h-1, i, wantNode(h-1, 2*i, leaves), wantNode(h-1, 2*i+1, leaves))
}

// wantPath returns the nodes beside those above leaf i, which the division of i by powers of two numbers.
func wantPath(levels, i int, leaves [][]byte) [][]byte {
	var path [][]byte
	for h := range levels {
		place := i / []int{1, 2, 4}[h]
		if place%2 == 0 {
			path = append(path, wantNode(h, place+1, leaves))
		} else {
			path = append(path, wantNode(h, place-1, leaves))
		}
	}
	return path
}

// equalPaths reports whether two paths have the same elements.
func equalPaths(a, b [][]byte) bool {
	return slices.EqualFunc(a, b, bytes.Equal)
}

// hexOf returns the digits of all elements of a path.
func hexOf(path [][]byte) string {
	var texts []string
	for _, p := range path {
		texts = append(texts, hex.EncodeToString(p))
	}
	return strings.Join(texts, " ")
}

// forests returns lists of n leaves of several kinds.
func forests(n int) [][][]byte {
	var all [][][]byte
	for _, leaf := range []func(i int) []byte{
		func(i int) []byte { return nil },
		func(i int) []byte { return []byte{} },
		func(i int) []byte { return []byte{0} },
		func(i int) []byte { return []byte{byte(i)} },
		func(i int) []byte { return pattern(i) },
		func(i int) []byte { return pattern(16 + i)[i:] },
		func(i int) []byte { return pattern(100 * (8 - i)) },
		func(i int) []byte { return bytes.Repeat([]byte{255}, 33*i) },
		func(i int) []byte { return pattern(100000 * (i % 2)) },
	} {
		var leaves [][]byte
		for i := range n {
			leaves = append(leaves, leaf(i))
		}
		all = append(all, leaves)
	}
	return all
}

// P6.1
func TestRootOfExamples(t *testing.T) {
	for _, c := range []struct {
		leaves [][]byte
		want   string
	}{
		{letters(1), "61"},
		{fields("a longer leaf"), hex.EncodeToString([]byte("a longer leaf"))},
		{fields(""), ""},
		{letters(2), "f090ade62b5f284c66b31d24b26bfc56"},
		{fields("", ""), "775980520da8cd472667f4078a6df816"},
		{letters(4), "0d6f3b8b56b8c6fba26f8775cdc80a23"},
		{fields("a", "a", "a", "a"), "42411b81349d853609707b9406f36708"},
		{letters(8), "edeb01576de0803532b5faee72a8f164"},
		{make([][]byte, 8), "905c712edec57bec113eb4d52f12469a"},
	} {
		if got := hex.EncodeToString(tree.Root(c.leaves...)); got != c.want {
			t.Errorf("%q: %s, want %s", c.leaves, got, c.want)
		}
	}
}

// P6.2
func TestPathOfExamples(t *testing.T) {
	const (
		ab, cd     = "f090ade62b5f284c66b31d24b26bfc56", "f55b4e3980fdeacfaf4bb75ed15461bd"
		ef, gh     = "676a27e84d36844415a0409d6d02d04e", "8005be8ee9238e8d1b754ebf68a9f541"
		abcd, efgh = "0d6f3b8b56b8c6fba26f8775cdc80a23", "db504bc8216c853573d887c4acc709a9"
	)
	for i, want := range []string{
		"62 " + cd + " " + efgh,
		"61 " + cd + " " + efgh,
		"64 " + ab + " " + efgh,
		"63 " + ab + " " + efgh,
		"66 " + gh + " " + abcd,
		"65 " + gh + " " + abcd,
		"68 " + ef + " " + abcd,
		"67 " + ef + " " + abcd,
	} {
		path := tree.Path(i, letters(8)...)
		if got := hexOf(path); got != want {
			t.Errorf("leaf %d: %s, want %s", i, got, want)
		}
		root := hex.EncodeToString(tree.Climb(letters(8)[i], i, path...))
		if root != "edeb01576de0803532b5faee72a8f164" {
			t.Errorf("leaf %d leads to %s", i, root)
		}
	}
}

// P6.1, P6.2, P6.3
func TestTrees(t *testing.T) {
	for levels, n := range widths {
		for k, leaves := range forests(n) {
			root := tree.Root(leaves...)
			if want := wantNode(levels, 0, leaves); !bytes.Equal(root, want) {
				t.Errorf("%d leaves of kind %d: %x, want %x", n, k, root, want)
			}
			for i, leaf := range leaves {
				path := tree.Path(i, leaves...)
				if want := wantPath(levels, i, leaves); !equalPaths(path, want) {
					t.Errorf("leaf %d of %d of kind %d: path %x, want %x", i, n, k, path, want)
				}
				if got := tree.Climb(leaf, i, path...); !bytes.Equal(got, root) {
					t.Errorf("leaf %d of %d of kind %d leads to %x, want %x", i, n, k, got, root)
				}
			}
		}
	}
}

// P6.1, P6.2: there are trees over 1, 2, 4 and 8 leaves only.
func TestNumbersOfLeaves(t *testing.T) {
	numbers := []int{31, 32, 33, 63, 64, 65, 127, 128, 255, 256, 257, 1024, 65536}
	for n := range 26 {
		numbers = append(numbers, n)
	}
	for _, n := range numbers {
		leaves := slices.Repeat(letters(1), n)
		levels := slices.Index(widths, n)
		if got := tree.Root(leaves...); (got != nil) != (levels >= 0) {
			t.Errorf("%d leaves: root %x", n, got)
		}
		for i := range 2*n + 2 {
			want := 0
			if levels >= 0 && i < n {
				want = levels
			}
			if path := tree.Path(i, leaves...); len(path) != want {
				t.Errorf("leaf %d of %d: path %x", i, n, path)
			}
		}
	}
	if got := tree.Root(); got != nil {
		t.Errorf("no leaves: root %x", got)
	}
}

// P6.2
func TestPathOfBadIndices(t *testing.T) {
	for _, n := range widths {
		for _, i := range append([]int{n, n + 1, 2 * n, -n, -n - 1, n - 256, n + 256}, badIndices...) {
			if got := tree.Path(i, letters(n)...); got != nil {
				t.Errorf("leaf %d of %d: path %x", i, n, got)
			}
		}
	}
	for _, i := range []int{0, 1, -1, math.MinInt, math.MaxInt} {
		if got := tree.Path(i); got != nil {
			t.Errorf("leaf %d of none: path %x", i, got)
		}
	}
}

// P6.2
func TestClimbOfIndices(t *testing.T) {
	leaf := []byte("leaf")
	for levels, n := range widths {
		path := letters(levels)
		for i := range 40 {
			if got := tree.Climb(leaf, i, path...); (got != nil) != (i < n) {
				t.Errorf("leaf %d, path of %d: %x", i, levels, got)
			}
		}
		for _, i := range append([]int{n, -n}, badIndices...) {
			if got := tree.Climb(leaf, i, path...); got != nil {
				t.Errorf("leaf %d, path of %d: %x", i, levels, got)
			}
		}
	}
}

// P6.2
func TestClimbOfLongPaths(t *testing.T) {
	for _, levels := range []int{4, 5, 6, 7, 8, 9, 16, 31, 32, 33, 62, 63, 64, 65, 66, 127, 128, 256, 1000, 65536} {
		path := slices.Repeat(letters(1), levels)
		for _, i := range append([]int{0, 1, 2, 3, 4, 5, 6, 7}, badIndices...) {
			if got := tree.Climb([]byte("leaf"), i, path...); got != nil {
				t.Errorf("leaf %d, path of %d: %x", i, levels, got)
			}
		}
	}
}

// P6.2: every leaf and path lead to some root, whatever their lengths are.
func TestClimbOfAnyPath(t *testing.T) {
	for _, leaf := range [][]byte{nil, {}, {0}, []byte("leaf"), pattern(16), pattern(70000)} {
		for _, p := range [][][]byte{{nil, nil, nil}, {{}, {0}, {0, 0}}, letters(3), {pattern(16), pattern(17), pattern(70000)}} {
			for i := range 8 {
				one := [][]byte{leaf, p[0]}
				if i%2 == 1 {
					one = [][]byte{p[0], leaf}
				}
				root := wantParent(0, i/2, one[0], one[1])
				if i < 2 {
					checkClimb(t, leaf, i, p[:1], root)
				}
				two := [][]byte{root, p[1]}
				if i/2%2 == 1 {
					two = [][]byte{p[1], root}
				}
				root = wantParent(1, i/4, two[0], two[1])
				if i < 4 {
					checkClimb(t, leaf, i, p[:2], root)
				}
				three := [][]byte{root, p[2]}
				if i/4 == 1 {
					three = [][]byte{p[2], root}
				}
				checkClimb(t, leaf, i, p, wantParent(2, 0, three[0], three[1]))
			}
		}
		checkClimb(t, leaf, 0, nil, leaf)
	}
}

// checkClimb reports an error if a leaf and its path lead to another root than want.
func checkClimb(t *testing.T, leaf []byte, i int, path [][]byte, want []byte) {
	t.Helper()
	if got := tree.Climb(leaf, i, path...); !bytes.Equal(got, want) {
		t.Errorf("leaf %d of %d bytes, path of %d: %x, want %x", i, len(leaf), len(path), got, want)
	}
}

// P6.4: leaves and paths that could be mistaken for each other if the lengths or the order of nodes were not hashed.
func TestDifferentLeavesLeadToDifferentRoots(t *testing.T) {
	nodes := append(fields("", "\x00", "a", "aa", "ab", "b", "ba", "aab", "\x00\x00\x00\x01a"), pattern(15), pattern(16), pattern(17))
	for levels, n := range widths {
		for i := range n {
			seen := map[string]bool{}
			for _, path := range pathsOf(levels, nodes) {
				for _, leaf := range nodes {
					root := string(tree.Climb(leaf, i, path...))
					if seen[root] {
						t.Errorf("leaf %d: %x with the path %x leads to %x, as others do", i, leaf, path, root)
					}
					seen[root] = true
				}
			}
		}
	}
}

// pathsOf returns all paths of so many levels that consist of some nodes.
func pathsOf(levels int, nodes [][]byte) [][][]byte {
	if levels == 0 {
		return [][][]byte{nil}
	}
	var all [][][]byte
	for _, path := range pathsOf(levels-1, nodes) {
		for _, node := range nodes {
			all = append(all, append(slices.Clone(path), node))
		}
	}
	return all
}

// P6.3: nothing but the leaf and its path leads to the root.
func TestClimbOfChanges(t *testing.T) {
	leaves := [][]byte{pattern(16), pattern(17)[1:], pattern(18)[2:], pattern(19)[3:], pattern(20)[4:], pattern(21)[5:], pattern(22)[6:], pattern(23)[7:]}
	root := tree.Root(leaves...)
	for i, leaf := range leaves {
		path := tree.Path(i, leaves...)
		refuse := func(what string, leaf []byte, i int, path [][]byte) {
			if got := tree.Climb(leaf, i, path...); len(got) != nodeSize || bytes.Equal(got, root) {
				t.Errorf("leaf %d, %s: %x", i, what, got)
			}
		}
		for k := range nodeSize {
			refuse(fmt.Sprint("byte ", k), flip(leaf, k), i, path)
			for h := range path {
				other := slices.Clone(path)
				other[h] = flip(path[h], k)
				refuse(fmt.Sprintf("byte %d of element %d", k, h), leaf, i, other)
			}
		}
		for j := range leaves {
			if j != i {
				refuse("another index", leaf, j, path)
				refuse("another leaf", leaves[j], i, path)
			}
		}
		refuse("exchanged elements", leaf, i, [][]byte{path[0], path[2], path[1]})
		refuse("its sibling for the leaf", path[0], i, append([][]byte{leaf}, path[1:]...))
		if i < 4 {
			refuse("a shorter path", leaf, i, path[:2])
		}
	}
}

// flip returns a copy of b in which a bit of byte k is changed.
func flip(b []byte, k int) []byte {
	other := bytes.Clone(b)
	other[k] ^= 1 << (k % 8)
	return other
}

// P6.1: a tree tells its leaves apart by their order, lengths and number.
func TestRootsDiffer(t *testing.T) {
	seen := map[string]int{}
	for k, leaves := range [][][]byte{
		fields("a", "b"), fields("b", "a"), fields("", "ab"), fields("ab", ""), fields("a", "a"),
		letters(4), letters(8), fields("a", "b", "d", "c"), fields("c", "d", "a", "b"), fields("b", "a", "c", "d"), fields("ab", "", "cd", ""),
		{tree.Root(letters(2)...), tree.Root(fields("c", "d")...)},
		slices.Repeat(letters(1), 4), slices.Repeat(letters(1), 8), make([][]byte, 2), make([][]byte, 4), make([][]byte, 8),
	} {
		root := string(tree.Root(leaves...))
		if other, ok := seen[root]; ok || len(root) != nodeSize {
			t.Errorf("the lists %d and %d have the root %x", other, k, root)
		}
		seen[root] = k
	}
}

// P6.1, P6.2: equal leaves have different parents at different places.
func TestPlaceOfParents(t *testing.T) {
	leaves := slices.Repeat(letters(1), 8)
	seen := map[string]bool{}
	for i := range leaves {
		path := tree.Path(i, leaves...)
		seen[string(path[1])] = true
		seen[string(path[2])] = true
	}
	if len(seen) != 6 {
		t.Errorf("%d different nodes above equal leaves", len(seen))
	}
}

// inRoom returns a copy of b that is followed by free memory.
func inRoom(b []byte) []byte {
	return append(append(make([]byte, 0, len(b)+64), b...), bytes.Repeat([]byte{77}, 64)...)[:len(b)]
}

// leavesInRoom returns n leaves, each followed by free memory, in a list that is followed by more of them.
func leavesInRoom(n int) [][]byte {
	var leaves [][]byte
	for i := range n + 4 {
		leaves = append(leaves, inRoom(pattern(10+i)))
	}
	return leaves[:n]
}

// isInRoom reports whether leaves are still those of leavesInRoom.
func isInRoom(leaves [][]byte) bool {
	for i, leaf := range leaves[:len(leaves)+4] {
		n := len(leaf)
		if !bytes.Equal(leaf, pattern(10+i)) || !bytes.Equal(leaf[n:n+64], bytes.Repeat([]byte{77}, 64)) {
			return false
		}
	}
	return true
}

// overwrite writes into all memory of a result.
func overwrite(b []byte) {
	for i := range b[:cap(b)] {
		b[:cap(b)][i] = 99
	}
}

// R4
func TestArgumentsAndResultsAreApart(t *testing.T) {
	for levels, n := range widths {
		leaves := leavesInRoom(n)
		overwrite(tree.Root(leaves...))
		for i := range n {
			path := tree.Path(i, leaves...)
			for h, p := range path {
				overwrite(p)
				if rest := path[h+1:]; !equalPaths(rest, wantPath(levels, i, leaves)[h+1:]) {
					t.Fatalf("leaf %d of %d: the elements of the path share memory", i, n)
				}
			}
			clear(path[:cap(path)])
			overwrite(tree.Climb(leaves[i], i, tree.Path(i, leaves...)...))
		}
		if !isInRoom(leaves) {
			t.Errorf("%d leaves: they have become %x", n, leaves)
		}
		if got := tree.Root(leaves...); !bytes.Equal(got, wantNode(levels, 0, leaves)) {
			t.Errorf("%d leaves: the root has become %x", n, got)
		}
	}
}

// R4
func TestClimbKeepsItsPath(t *testing.T) {
	for levels, n := range widths {
		for i := range n {
			leaf, path := inRoom([]byte("leaf")), leavesInRoom(levels)
			overwrite(tree.Climb(leaf, i, path...))
			if string(leaf) != "leaf" || !bytes.Equal(leaf[4:68], bytes.Repeat([]byte{77}, 64)) || !isInRoom(path) {
				t.Errorf("leaf %d, path of %d: they have become %q, %x", i, levels, leaf, path)
			}
		}
	}
}
