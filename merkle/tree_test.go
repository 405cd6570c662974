package merkle_test

import (
	"fmt"
	"math"
	"slices"
	"testing"

	"safehouse/api"
	"safehouse/merkle"
	"safehouse/wots"
)

// P8.1: the seed of each leaf is the digest of the bytes that the chapter names.
func TestSeed(t *testing.T) {
	for _, seed := range ids() {
		for leaf := range 8 {
			got, err := merkle.Seed(seed, leaf)
			checkIs(t, fmt.Sprintf("the seed of the leaf %d", leaf), got, err, modelSeed(seed, leaf))
		}
	}
}

// P8.1, P8.2: what is no leaf has no seed, and no path.
func TestNoLeaf(t *testing.T) {
	for _, seed := range []api.Id{filled(0), mixed()} {
		for _, leaf := range noLeaves() {
			got, err := merkle.Seed(seed, leaf)
			checkOnly(t, fmt.Sprintf("the seed of the leaf %d", leaf), got, err, api.ErrArg)
			path, err := merkle.Path(seed, leaf)
			if err != api.ErrArg || len(path) != 0 {
				t.Errorf("the path of the leaf %d: %x with the error %d", leaf, path, err)
			}
		}
	}
}

// P8.1: what two digests are joined to is the digest of the bytes that the chapter names, the first one ahead.
func TestJoin(t *testing.T) {
	for _, a := range ids() {
		for _, b := range ids() {
			if got, want := merkle.Join(a, b), modelJoin(a, b); got != want {
				t.Errorf("%x and %x are joined to %x, not %x", a, b, got, want)
			}
		}
	}
}

// P8.1: each bit of a seed counts, and of each of two that are joined.
func TestBits(t *testing.T) {
	for bit := range 256 {
		for _, x := range []api.Id{turned(filled(0), bit), turned(filled(255), bit)} {
			got, err := merkle.Seed(x, 5)
			checkIs(t, fmt.Sprintf("the seed of a leaf by %x", x), got, err, modelSeed(x, 5))
			if merkle.Join(x, mixed()) != modelJoin(x, mixed()) || merkle.Join(mixed(), x) != modelJoin(mixed(), x) {
				t.Errorf("%x and mixed bytes are joined to something else", x)
			}
		}
	}
}

// P8.1, P8.2: seeds of leaves, joins and roots as another program has reckoned them.
func TestTreesWrittenOut(t *testing.T) {
	for _, q := range []struct {
		seed          api.Id
		root          string
		leaves        [3]string // of the leaves 0, 5 and 7
		first, second string    // joined with mixed bytes
	}{
		{filled(0),
			"718ecce25c360769cbb956a9ce7f806dfaa90700d1fbde9e1e41c71750fb04dc",
			[3]string{"0de378b0aeed0bbb4543ebfb7638947f132e166c2ad0ac7a7da04a1cbb7cc0b6", "3ca44e5ed8143d2a2bf3edd1372d165577301128dc73553ba30c67e7a96aaa27", "794db83c25800c7b8bb12b8e8c2768af60f9f7a13a62fa0dae0610c79c925ce8"},
			"77c61fda737776b3dfefdc67340498a349c3876aeb953d6618be743381c2f17f", "f2b626f3b5e1b392b3dbd109b02887ebc249d4f3078a0ab119d78494942fb8b6"},
		{filled(255),
			"724f7fcdd4066e270d465546ce96c398765e3e1126c692b379f5ab4c906675de",
			[3]string{"8088be6adb172dd2dc49d0ad1614c0fbb6e0427b3f495aa6258a66754666c37d", "3d44ec87951d5f429944578abad3c9dc7693e38e1ed8fdd2e1159cd82fd4f086", "ce7fcbc027c6cc3b930586f264044c8fa04f6104d60afec01435af66e1e4120a"},
			"99264bc1291773fab8d014de3c33b6868da9bb06478d2191a1e8c35f6c06354b", "d46378a0bef65a3260e99186a9f15e33b535e6b798d2ce1311159fadbadc9445"},
		{rising(),
			"e85c35d4ac165b5d29da2d317ed9d4f66041db4ff74096b194ab629991a92914",
			[3]string{"d4c64bf13ac666b40c4cd0ea9f3aecba08f764c552df4204a6963b0b1eb15edf", "0c40ae9f8c0bbd958b35cabcdcfbebfc6944873f4f837037e37850c18cee41fd", "14db71c49c1a7d096363bd5269845ad419d0ac74ff61b05dfe8ad4ef3c7d04f7"},
			"207b1c2258f05093c48780d8e4c82edc1101f7d5856d2f7c0aa3a48750f59003", "7dc8a328299e8b2f39b85529e2131232a96e9bda6cac5445251443225de92228"},
		{mixed(),
			"b4310a1f10db8c73481c3bed3b02f7194ab388f606dbfad609b12dea6c4c1012",
			[3]string{"7d44c86d376f7e8498574d0f6cc3dd53a94f24f30dd8cda9d67a34ccb1fb28cd", "2692def066c5a16ec07fac1dfc2b6a1919c7ea32d4755de13dfd958025d04f48", "5d7e7a6d11723e8cac9487ff2cf5345e93342c520ca05bcf7946eb5e68231a7e"},
			"b7f8272de23c95b6b5eaecf3c42c5e39ff226a2c3c36e6fd4cb0c09495fbac48", "b7f8272de23c95b6b5eaecf3c42c5e39ff226a2c3c36e6fd4cb0c09495fbac48"},
	} {
		if got := merkle.Root(q.seed); got != idOf(t, q.root) {
			t.Errorf("the root of %x: %x", q.seed, got)
		}
		for k, leaf := range []int{0, 5, 7} {
			got, err := merkle.Seed(q.seed, leaf)
			checkIs(t, fmt.Sprintf("the seed of the leaf %d", leaf), got, err, idOf(t, q.leaves[k]))
		}
		if merkle.Join(q.seed, mixed()) != idOf(t, q.first) || merkle.Join(mixed(), q.seed) != idOf(t, q.second) {
			t.Errorf("%x and mixed bytes are joined to something else", q.seed)
		}
	}
}

// P8.2: a root is what the keys of the leaves are joined to, in pairs.
func TestRoot(t *testing.T) {
	for _, seed := range seeds() {
		if got, want := merkle.Root(seed), treeOf(seed)[1]; got != want {
			t.Errorf("the root of %x: %x, not %x", seed, got, want)
		}
	}
}

// P8.2: each leaf's path, digest by digest: the neighbour's key first, and that below the root last.
func TestPath(t *testing.T) {
	for _, seed := range seeds() {
		for leaf := range 8 {
			if got, want := pathOf(t, seed, leaf), treeOf(seed).path(leaf); !slices.Equal(got, want) {
				t.Errorf("the path of the leaf %d of %x: %x, not %x", leaf, seed, got, want)
			}
		}
	}
}

// P8.2: the first one of a path is the key of the neighbour's seed.
func TestPathBegins(t *testing.T) {
	seed := mixed()
	for leaf, neighbour := range []int{1, 0, 3, 2, 5, 4, 7, 6} {
		other, err := merkle.Seed(seed, neighbour)
		if path := pathOf(t, seed, leaf); err != api.OK || len(path) != 3 || path[0] != wots.Key(other) {
			t.Errorf("the path of the leaf %d does not begin with the key of the leaf %d", leaf, neighbour)
		}
	}
}

// P8.2: paths as another program has reckoned them.
func TestPathsWrittenOut(t *testing.T) {
	seed := rising()
	rows := []string{
		"83a870ceeb2cb812fc04fcc4c2592b84e702901ddc6f0b175d134c9cd75e9019",
		"93e6a234e2fb92b1d37c6dcca35a90695080ce71a6b189db7175d9de87733a07",
		"ec9f8e44a266626e4dd57bea113c9f69e5807ebe5d4aea7d8e8ebc09a3be80b1",
		"97d8f194c788a67afd8c6bcdbc0a68bc2c679b40a6a17bac18bf55b2a0a2053d",
		"a85e2825a0e3ff9b2846374e988aed589b850fe9257e782daacc1e769e0690b8",
		"e349db4caa1232fc0f21f2259067a7ddd585c02931aa9a533261e449a73fd30b",
		"b58c9f736766b71ec3dcf825a51d6d450e9342be0d7d59cd31c51eb8453f1d5c",
		"a38cdbbf5619c9ce5f3120edd19ee2af1b0025f3c6d60bebce906ab71cb1d1c0",
		"5fa5d8c3d393ff0b8ffddddab06362234dbb6772127617cf3a5d0b129982b967",
		"94f5eedd20c344c7ad65326ae7529e89cc6c475a3add2af90cc6e7b18423dd6e",
		"cf5099fea6fc3ff5139c2a993fc1cccbec4cc3b56eb9d32bab9215634733989e",
		"a69be413298f2d13d11e075bb205cbf563ba84f050633b1a3d17d804debb6112",
		"8fb7842ecda38135050bbf719678378e6b5778a0813ade87f2a09c6f99111459",
		"7d938c0b1c9959024b05799f2dbf379196777abe7aec27c3263a27b2d22eeeba",
		"e85c35d4ac165b5d29da2d317ed9d4f66041db4ff74096b194ab629991a92914",
	}
	for leaf, places := range [][3]int{{1, 9, 13}, {0, 9, 13}, {3, 8, 13}, {2, 8, 13}, {5, 11, 12}, {4, 11, 12}, {7, 10, 12}, {6, 10, 12}} {
		path := pathOf(t, seed, leaf)
		if len(path) != 3 {
			t.Fatalf("the path of the leaf %d has %d digests", leaf, len(path))
		}
		for k, place := range places {
			if path[k] != idOf(t, rows[place]) {
				t.Errorf("the digest %d of the path of the leaf %d: %x", k, leaf, path[k])
			}
		}
		got, err := merkle.Climb(idOf(t, rows[leaf]), leaf, path)
		checkIs(t, fmt.Sprintf("what the path of the leaf %d leads to", leaf), got, err, idOf(t, rows[14]))
	}
}

// P8.2: from whatever key by whatever path, on the side that each bit of the leaf says.
func TestClimb(t *testing.T) {
	for _, key := range ids() {
		for leaf := range 8 {
			for _, path := range [][]api.Id{unlike(3), make([]api.Id, 3), {key, key, key}, {mixed(), rising(), filled(255)}, {filled(255), mixed(), mixed()}} {
				got, err := merkle.Climb(key, leaf, path)
				checkIs(t, fmt.Sprintf("from %x by the leaf %d", key, leaf), got, err, modelClimb(key, leaf, path))
			}
		}
	}
}

// P8.2: what is reached, as another program has reckoned it.
func TestClimbsWrittenOut(t *testing.T) {
	path := []api.Id{filled(1), rising(), filled(255)}
	for leaf, want := range []string{
		"cbe522adf4280da5328c22fff337e413e08a10b85b02e33e76bb0cb655d2c6ca",
		"6f38d55a680ce82dd931c5d2eb025c5148f0e45dfae3d3c64745ea245d7ea79a",
		"81de631ca66ccb07c9b6cd973acc1fee17b9b0b45d81e79263fe6c907e8791c4",
		"ca34b227ece79f3e8e76df6697c677462c5d5b9ba11575b4c7e30ff40a1dd36c",
		"143608cafaf9923ed0ee590f5e2be2293f26bc07fef2b434fc45453b393211d9",
		"8b5c15d44ed6a4606c16481e81ff55452a3a4718f914b367db1e91ccf8df0148",
		"f671ef81206af0bc24612edf62c3e1ff11822d0299fcc7e61064f8dcf2fa5561",
		"38babc57d3e4af06bd1f15d93c622253182aeb59876de5c1b35ed9519a66e43f",
	} {
		got, err := merkle.Climb(mixed(), leaf, path)
		checkIs(t, fmt.Sprintf("from mixed bytes by the leaf %d", leaf), got, err, idOf(t, want))
	}
}

// P8.2: each bit of the key and of each digest of the path counts.
func TestClimbBits(t *testing.T) {
	for bit := range 256 {
		for leaf := range 8 {
			path := unlike(3)
			got, err := merkle.Climb(turned(mixed(), bit), leaf, path)
			checkIs(t, fmt.Sprintf("from a key with the bit %d turned", bit), got, err, modelClimb(turned(mixed(), bit), leaf, path))
			for k := range path {
				other := slices.Clone(path)
				other[k] = turned(other[k], bit)
				got, err = merkle.Climb(mixed(), leaf, other)
				checkIs(t, fmt.Sprintf("with the bit %d of the digest %d turned", bit, k), got, err, modelClimb(mixed(), leaf, other))
			}
		}
	}
}

// otherPaths are those that have not just three digests, such as have three and more behind their end among them.
func otherPaths() [][]api.Id {
	many := unlike(70)
	l := [][]api.Id{nil, {}, many[3:3], make([]api.Id, 1<<16)}
	for _, n := range []int{1, 2, 4, 5, 6, 7, 8, 16, 32, 64, 67, 70} {
		l = append(l, many[:n], make([]api.Id, n))
	}
	return l
}

// P8.2: a path of fewer digests than three, or of more; the room behind its end doesn't count.
func TestClimbLengths(t *testing.T) {
	for _, path := range otherPaths() {
		for leaf := range 8 {
			got, err := merkle.Climb(mixed(), leaf, path)
			checkOnly(t, fmt.Sprintf("by the leaf %d and %d digests", leaf, len(path)), got, err, api.ErrLong)
		}
	}
	got, err := merkle.Climb(mixed(), 3, unlike(70)[:3])
	checkIs(t, "by the first three of many", got, err, modelClimb(mixed(), 3, unlike(3)))
}

// P8.2: what is no leaf goes ahead of a path that is too short, or too long, and is told of a right one, too.
func TestClimbByNoLeaf(t *testing.T) {
	for _, leaf := range noLeaves() {
		for _, path := range append(otherPaths(), unlike(3)) {
			got, err := merkle.Climb(mixed(), leaf, path)
			checkOnly(t, fmt.Sprintf("by the leaf %d and %d digests", leaf, len(path)), got, err, api.ErrArg)
		}
	}
	got, err := merkle.Climb(api.Id{}, math.MinInt, nil)
	checkOnly(t, "by no leaf and no path", got, err, api.ErrArg)
}

// R3, P8.2: a path that is handed in stays as it is, the room behind its end, too, and what is done to it later changes no answer.
func TestClimbKeepsNothing(t *testing.T) {
	room := unlike(8)
	got, err := merkle.Climb(mixed(), 5, room[:3])
	if !slices.Equal(room, unlike(8)) {
		t.Error("what was handed in is changed")
	}
	clear(room)
	checkIs(t, "what was reached", got, err, modelClimb(mixed(), 5, unlike(3)))
	got, err = merkle.Climb(mixed(), 5, unlike(3))
	checkIs(t, "what is reached again", got, err, modelClimb(mixed(), 5, unlike(3)))
}

// R3, P8.2: a path is memory of its own: who changes one changes no other one.
func TestPathsAreOwn(t *testing.T) {
	seed := rising()
	first, second := pathOf(t, seed, 5), pathOf(t, seed, 5)
	_ = append(first, first...)
	clear(first)
	want := treeOf(seed).path(5)
	if !slices.Equal(second, want) || !slices.Equal(pathOf(t, seed, 5), want) || merkle.Root(seed) != treeOf(seed)[1] {
		t.Error("a path is not in memory of its own")
	}
}
