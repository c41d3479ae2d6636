package snap_test

import (
	"bytes"
	"crypto/sha256"
	"math"
	"slices"
	"testing"

	"quorum/api"
	"quorum/snap"
)

// sizes are those of data at and beside the ends of chunks, up to the most that Verify takes and somewhat beyond.
func sizes() []int {
	list := []int{0, 1, 2, 500, 1023}
	for n := 1; n <= 40; n++ {
		list = append(list, 1024*n-1, 1024*n, 1024*n+1)
	}
	return append(list, 39999, 40000, 64*1024, 65*1024, 100*1024+1, 128*1024)
}

// someData gives bytes that are nowhere alike.
func someData(size int) []byte { return (&dice{uint64(size) + 1}).bytes(size) }

// cutUp gives the chunks by the chapter's words.
func cutUp(data []byte) [][]byte {
	var list [][]byte
	for len(data) > 1024 {
		list = append(list, data[:1024])
		data = data[1024:]
	}
	return append(list, data)
}

// The second tree: it is built from the leaves up, each row of sums from the one below; a sum that is left over at a row's end goes up as it is. That gives the same sums as halves cut at powers of two.

func secondLeaf(chunk []byte) api.Hash { return sha256.Sum256(append([]byte{0}, chunk...)) }

func secondPair(a, b api.Hash) api.Hash {
	return sha256.Sum256(slices.Concat([]byte{1}, a[:], b[:]))
}

// secondTree gives the root and the path of each chunk.
func secondTree(data []byte) (api.Hash, [][]api.Hash) {
	var row []api.Hash
	for _, c := range cutUp(data) {
		row = append(row, secondLeaf(c))
	}
	paths := make([][]api.Hash, len(row))
	for width := 1; len(row) > 1; width *= 2 {
		var above []api.Hash
		for i := 0; i < len(row); i += 2 {
			if i+1 == len(row) {
				above = append(above, row[i])
				continue
			}
			for leaf := i * width; leaf < min((i+2)*width, len(paths)); leaf++ {
				beside := row[i]
				if leaf < (i+1)*width {
					beside = row[i+1]
				}
				paths[leaf] = append(paths[leaf], beside)
			}
			above = append(above, secondPair(row[i], row[i+1]))
		}
		row = above
	}
	return row[0], paths
}

func TestP6_5Chunks(t *testing.T) {
	for _, size := range sizes() {
		if got := snap.Chunks(size); got != len(cutUp(make([]byte, size))) {
			t.Errorf("Chunks(%d): %d", size, got)
		}
	}
	for size, n := range map[int]int{-1: 0, -1023: 0, -1024: 0, -1025: 0, math.MinInt: 0, math.MaxInt: 1 << 53, math.MaxInt - 1022: 1 << 53, math.MaxInt - 1023: 1<<53 - 1, 1 << 40: 1 << 30, 1<<40 + 1: 1<<30 + 1} {
		if got := snap.Chunks(size); got != n {
			t.Errorf("Chunks(%d): %d, want %d", size, got, n)
		}
	}
}

func TestP6_5Chunk(t *testing.T) {
	for _, size := range sizes() {
		data := someData(size)
		for i, want := range cutUp(data) {
			got, err := snap.Chunk(data, i)
			if err != nil || !bytes.Equal(got, want) {
				t.Errorf("chunk %d of %d bytes: %d bytes, %v", i, size, len(got), err)
			}
		}
	}
	for _, none := range [][]byte{nil, {}} {
		if got, err := snap.Chunk(none, 0); got != nil || err != nil {
			t.Errorf("the chunk of no bytes: %v, %v", got, err)
		}
	}
}

// noChunks are numbers that no chunk of so many bytes has.
func noChunks(size int) []int {
	n := len(cutUp(make([]byte, size)))
	return []int{-1, -2, n, n + 1, math.MinInt, math.MaxInt, 1 << 53, 1 << 54, -1 << 54, math.MaxInt / 1024}
}

func TestP6_5NoSuchChunk(t *testing.T) {
	for _, size := range sizes() {
		data := make([]byte, size)
		for _, i := range noChunks(size) {
			got, err := snap.Chunk(data, i)
			isFault(t, "Chunk", err, api.ErrSnapIndex, i)
			if got != nil {
				t.Errorf("%d bytes beside the refusal", len(got))
			}
		}
	}
}

func TestP6_5ChunkIsNewMemory(t *testing.T) {
	data := someData(3000)
	was := bytes.Clone(data)
	for i := range 3 {
		c, _ := snap.Chunk(data, i)
		clear(c[:cap(c)])
	}
	if !bytes.Equal(data, was) {
		t.Error("a chunk is the data's own memory")
	}
	c, _ := snap.Chunk(data, 2)
	clear(data)
	if !bytes.Equal(c, was[2048:]) {
		t.Error("the data is a chunk's memory")
	}
}

func TestP6_6Root(t *testing.T) {
	for _, size := range sizes() {
		data := someData(size)
		if want, _ := secondTree(data); snap.Root(data) != want {
			t.Errorf("Root of %d bytes: %x, want %x", size, snap.Root(data), want)
		}
	}
	if snap.Root(nil) != secondLeaf(nil) || snap.Root([]byte{}) != secondLeaf(nil) {
		t.Error("Root of no bytes is not the sum of one empty leaf")
	}
}

// The rows by hand, so that the second tree itself is held against the chapter.
func TestP6_6SmallTrees(t *testing.T) {
	data := someData(7 * 1024)
	var l []api.Hash
	for _, c := range cutUp(data) {
		l = append(l, secondLeaf(c))
	}
	p := secondPair
	four := p(p(l[0], l[1]), p(l[2], l[3]))
	for n, want := range map[int]api.Hash{
		1: l[0],
		2: p(l[0], l[1]),
		3: p(p(l[0], l[1]), l[2]),
		4: four,
		5: p(four, l[4]),
		6: p(four, p(l[4], l[5])),
		7: p(four, p(p(l[4], l[5]), l[6])),
	} {
		if got := snap.Root(data[:1024*n]); got != want {
			t.Errorf("the root of %d chunks: %x, want %x", n, got, want)
		}
	}
}

func TestP6_7Path(t *testing.T) {
	for _, size := range sizes() {
		data := someData(size)
		_, paths := secondTree(data)
		for i, want := range paths {
			got, err := snap.Path(data, i)
			if err != nil || !slices.Equal(got, want) {
				t.Errorf("the path of chunk %d of %d bytes: %x, %v, want %x", i, size, got, err, want)
			}
			if len(want) == 0 && got != nil {
				t.Errorf("the path of chunk %d of %d bytes is empty, not nil", i, size)
			}
		}
	}
}

func TestP6_7LongestPath(t *testing.T) {
	for _, size := range []int{33 * 1024, 40000} {
		data := make([]byte, size)
		for i := range snap.Chunks(size) {
			if p, err := snap.Path(data, i); err != nil || len(p) > api.MaxPath {
				t.Errorf("the path of chunk %d of %d bytes has %d sums, %v", i, size, len(p), err)
			}
		}
	}
}

func TestP6_7NoSuchChunk(t *testing.T) {
	for _, size := range sizes() {
		data := make([]byte, size)
		for _, i := range noChunks(size) {
			got, err := snap.Path(data, i)
			isFault(t, "Path", err, api.ErrSnapIndex, i)
			if got != nil {
				t.Errorf("%d sums beside the refusal", len(got))
			}
		}
	}
}

func TestP6_7PathIsNewMemory(t *testing.T) {
	data := someData(5000)
	was := bytes.Clone(data)
	one, _ := snap.Path(data, 1)
	two, _ := snap.Path(data, 1)
	clear(one[:cap(one)])
	three, _ := snap.Path(data, 1)
	if !slices.Equal(two, three) || !bytes.Equal(data, was) {
		t.Error("two paths share memory, or the data has changed")
	}
}

func TestP6_8TakesEveryChunk(t *testing.T) {
	for _, size := range sizes() {
		if size > api.MaxSnap {
			continue
		}
		data := someData(size)
		root, paths := secondTree(data)
		for i, c := range cutUp(data) {
			if err := snap.Verify(root, size, i, c, paths[i]); err != nil {
				t.Errorf("chunk %d of %d bytes: %v", i, size, err)
			}
		}
	}
	for _, none := range [][]byte{nil, {}} {
		if err := snap.Verify(secondLeaf(nil), 0, 0, none, []api.Hash{}); err != nil {
			t.Errorf("the chunk of no bytes: %v", err)
		}
	}
}

func TestP6_8Sizes(t *testing.T) {
	for _, size := range []int{-1, math.MinInt, api.MaxSnap + 1, api.MaxSnap + 1024, math.MaxInt} {
		isFault(t, "Verify", snap.Verify(api.Hash{}, size, 0, nil, nil), api.ErrSnapSize, 0)
		isFault(t, "Verify", snap.Verify(api.Hash{}, size, -1, nil, nil), api.ErrSnapSize, 0)
	}
	data := someData(40000)
	root, paths := secondTree(data)
	if err := snap.Verify(root, 40000, 39, data[39*1024:], paths[39]); err != nil {
		t.Errorf("40000 bytes: %v", err)
	}
}

func TestP6_8NoSuchChunk(t *testing.T) {
	for _, size := range sizes() {
		if size > api.MaxSnap {
			continue
		}
		data := someData(size)
		root, paths := secondTree(data)
		for _, i := range noChunks(size) {
			isFault(t, "Verify", snap.Verify(root, size, i, data[:min(size, 1024)], paths[0]), api.ErrSnapIndex, i)
		}
	}
}

func TestP6_8ChunkLengths(t *testing.T) {
	for _, size := range []int{0, 1, 1023, 1024, 1025, 2048, 5000, 5120, 40000} {
		data := someData(size)
		root, paths := secondTree(data)
		for i, c := range cutUp(data) {
			for n := range 1030 {
				chunk := append(bytes.Clone(c), make([]byte, 1030)...)[:n]
				err := snap.Verify(root, size, i, chunk, paths[i])
				if n == len(c) {
					if err != nil {
						t.Errorf("chunk %d of %d: %v", i, size, err)
					}
					continue
				}
				isFault(t, "Verify", err, api.ErrSnapSize, 1)
			}
			isFault(t, "Verify", snap.Verify(root, size, i, make([]byte, len(c)+1024), paths[i]), api.ErrSnapSize, 1)
		}
	}
}

func TestP6_8PathLengths(t *testing.T) {
	for _, size := range sizes() {
		if size > api.MaxSnap {
			continue
		}
		data := someData(size)
		root, paths := secondTree(data)
		for i, c := range cutUp(data) {
			for n := range 12 {
				path := append(slices.Clone(paths[i]), make([]api.Hash, 12)...)[:n]
				err := snap.Verify(root, size, i, c, path)
				if n == len(paths[i]) {
					if err != nil {
						t.Errorf("chunk %d of %d: %v", i, size, err)
					}
					continue
				}
				isFault(t, "Verify", err, api.ErrSnapPath, n)
			}
		}
	}
}

// Each reason alone, and with every one that the chapter names later.
func TestP6_8OrderOfReasons(t *testing.T) {
	data := someData(5000)
	root, paths := secondTree(data)
	type call struct {
		root    api.Hash
		size, i int
		chunk   []byte
		path    []api.Hash
	}
	sound := call{root, 5000, 2, data[2048:3072], paths[2]}
	wrong := []struct {
		why  api.Errno
		at   int
		turn func(*call)
	}{
		{api.ErrSnapSize, 0, func(c *call) { c.size = -7 }},
		{api.ErrSnapIndex, 9, func(c *call) { c.i = 9 }},
		{api.ErrSnapSize, 1, func(c *call) { c.chunk = c.chunk[1:] }},
		{api.ErrSnapPath, 2, func(c *call) { c.path = c.path[1:] }},
		{api.ErrSnapRoot, 0, func(c *call) { c.root[31]++ }},
	}
	for first, w := range wrong {
		for later := first; later < len(wrong); later++ {
			c := sound
			w.turn(&c)
			if later > first {
				wrong[later].turn(&c)
			}
			isFault(t, "Verify", snap.Verify(c.root, c.size, c.i, c.chunk, c.path), w.why, w.at)
		}
	}
	if err := snap.Verify(sound.root, sound.size, sound.i, sound.chunk, sound.path); err != nil {
		t.Errorf("with nothing wrong: %v", err)
	}
}

func TestP6_8NothingChanged(t *testing.T) {
	data := someData(5000)
	root, paths := secondTree(data)
	was, path := bytes.Clone(data), slices.Clone(paths[1])
	roomy := append(slices.Clone(paths[1]), api.Hash{7}, api.Hash{8})
	if err := snap.Verify(root, 5000, 1, data[1024:2048], roomy[:3]); err != nil {
		t.Error(err)
	}
	if !bytes.Equal(data, was) || !slices.Equal(roomy[:3], path) || roomy[3] != (api.Hash{7}) || roomy[4] != (api.Hash{8}) {
		t.Error("what was handed in has changed")
	}
}

// P6.9: what Path and Root tell Verify takes, and no other chunk in its place.

func TestP6_9PathsLeadToTheRoot(t *testing.T) {
	for _, size := range sizes() {
		if size > api.MaxSnap {
			continue
		}
		data := someData(size)
		root := snap.Root(data)
		for i := range snap.Chunks(size) {
			c, _ := snap.Chunk(data, i)
			p, _ := snap.Path(data, i)
			if err := snap.Verify(root, size, i, c, p); err != nil {
				t.Errorf("chunk %d of %d bytes: %v", i, size, err)
			}
		}
	}
}

func TestP6_9EveryBitIsBound(t *testing.T) {
	for _, size := range []int{20, 1100, 2100, 5000} {
		data := someData(size)
		root, paths := secondTree(data)
		for i, c := range cutUp(data) {
			for bit := range 8 * len(c) {
				other := bytes.Clone(c)
				other[bit/8] ^= 1 << (bit % 8)
				if bit%13 == 0 { // enough of the whole's bits
					isFault(t, "another chunk", snap.Verify(root, size, i, other, paths[i]), api.ErrSnapRoot, 0)
				}
			}
			for k := range paths[i] {
				for bit := range 256 {
					other := slices.Clone(paths[i])
					other[k][bit/8] ^= 1 << (bit % 8)
					isFault(t, "another path", snap.Verify(root, size, i, c, other), api.ErrSnapRoot, 0)
				}
			}
			for bit := range 256 {
				other := root
				other[bit/8] ^= 1 << (bit % 8)
				isFault(t, "another root", snap.Verify(other, size, i, c, paths[i]), api.ErrSnapRoot, 0)
			}
		}
	}
}

// A chunk with its own path is not taken at another place, nor in data of another size with another tree.
func TestP6_9EveryPlaceIsBound(t *testing.T) {
	data := someData(13 * 1024)
	root, paths := secondTree(data)
	for i, c := range cutUp(data) {
		for j := range paths {
			err := snap.Verify(root, len(data), j, c, paths[i])
			switch {
			case i == j && err == nil:
			case i == j:
				t.Errorf("chunk %d: %v", i, err)
			case len(paths[i]) != len(paths[j]):
				isFault(t, "at another place", err, api.ErrSnapPath, len(paths[i]))
			default:
				isFault(t, "at another place", err, api.ErrSnapRoot, 0)
			}
		}
	}
}

func TestP6_9PathInAnotherOrder(t *testing.T) {
	data := someData(40000)
	root, paths := secondTree(data)
	for i, c := range cutUp(data) {
		other := slices.Clone(paths[i])
		slices.Reverse(other)
		isFault(t, "turned round", snap.Verify(root, 40000, i, c, other), api.ErrSnapRoot, 0)
	}
}

// The bytes of a row, taken for a chunk, do not give the row's sum: a leaf has another first byte.
func TestP6_9RowsAreNoLeaves(t *testing.T) {
	data := someData(2048)
	root, paths := secondTree(data)
	row := slices.Concat(paths[1][0][:], paths[0][0][:]) // the sums of the leaves 0 and 1
	if sha256.Sum256(append([]byte{1}, row...)) != [32]byte(root) {
		t.Fatal("the row is not the root's")
	}
	isFault(t, "the row as a chunk", snap.Verify(root, len(row), 0, row, nil), api.ErrSnapRoot, 0)
	marked := append([]byte{1}, row...)
	isFault(t, "the marked row as a chunk", snap.Verify(root, len(marked), 0, marked, nil), api.ErrSnapRoot, 0)
}
