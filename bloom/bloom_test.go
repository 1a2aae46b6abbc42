package bloom

import (
	"fmt"
	"math"
	"math/big"
	"math/rand"
	"slices"
	"testing"

	"commonbook/api"
	"commonbook/plain"
)

func ref(actor, seq int) api.Ref { return api.Ref{Actor: actor, Seq: seq} }

// refs of numbers: an actor, a Seq, and so on.
func refs(n ...int) (l []api.Ref) {
	for i := 0; i < len(n); i += 2 {
		l = append(l, ref(n[i], n[i+1]))
	}
	return l
}

// manyRefs gives n refs, no two of them one.
func manyRefs(n int) (l []api.Ref) {
	for i := range n {
		l = append(l, ref(i%api.MaxActor+1, i*997+1))
	}
	return l
}

// edgeBits: the fewest and the most, and those beside them.
var edgeBits = []int{8, 16, 4088, 4096}

// wrongBits: below 8, above 4096, no multiple of 8, below 0.
var wrongBits = []int{
	0, 1, 4, 7, 9, 12, 15, 17, 100, 4087, 4089, 4095, 4097, 4104, 8192, 1 << 32, 1<<32 + 8,
	-1, -7, -8, -16, -4096, math.MaxInt, math.MaxInt - 7, math.MinInt, math.MinInt + 8,
}

// wrongRefs: actors and Seqs below and above their bounds.
var wrongRefs = []api.Ref{
	{}, {Actor: 0, Seq: 1}, {Actor: 1, Seq: 0}, {Actor: -1, Seq: 1}, {Actor: 1, Seq: -1}, {Actor: -1, Seq: -1},
	{Actor: 100, Seq: 1}, {Actor: 1, Seq: 1_000_001}, {Actor: 100, Seq: 1_000_001}, {Actor: 100, Seq: 1_000_000}, {Actor: 99, Seq: 1_000_001},
	{Actor: 99, Seq: 0}, {Actor: 0, Seq: 1_000_000},
	{Actor: math.MaxInt, Seq: 1}, {Actor: math.MinInt, Seq: 1}, {Actor: 1, Seq: math.MaxInt}, {Actor: 1, Seq: math.MinInt},
	{Actor: 1<<32 + 1, Seq: 1}, {Actor: 1, Seq: 1<<32 + 1}, {Actor: math.MinInt, Seq: math.MinInt}, {Actor: math.MaxInt, Seq: math.MaxInt},
}

// edgeRefs: actors and Seqs at their bounds and just within.
func edgeRefs() (l []api.Ref) {
	for _, actor := range []int{1, 2, 98, 99} {
		for _, seq := range []int{1, 2, 999_999, 1_000_000} {
			l = append(l, ref(actor, seq))
		}
	}
	return l
}

func wantErr(t *testing.T, what string, got error, want api.Errno) {
	t.Helper()
	if got == nil || plain.Told(got) != want {
		t.Errorf("%s: error %v, want %v", what, got, want)
	}
}

// placesOf reckons the places by numbers without a bound, as the chapter words them.
func placesOf(r api.Ref, bits int) (l []int) {
	wrap := new(big.Int).Lsh(big.NewInt(1), 64)
	over := new(big.Int).Lsh(big.NewInt(1), 33)
	factor, _ := new(big.Int).SetString("6364136223846793005", 10)
	more, _ := new(big.Int).SetString("1442695040888963407", 10)
	x := new(big.Int).Mul(big.NewInt(int64(r.Actor)), big.NewInt(1000003))
	x.Add(x, big.NewInt(int64(r.Seq)))
	x.Mod(x, wrap)
	for len(l) < 3 {
		x.Mul(x, factor)
		x.Add(x, more)
		x.Mod(x, wrap)
		place := new(big.Int).Div(x, over)
		place.Mod(place, big.NewInt(int64(bits)))
		l = append(l, int(place.Int64()))
	}
	return l
}

// weights of the bits of a byte, in the chapter's order.
var weights = [8]byte{1, 2, 4, 8, 16, 32, 64, 128}

// filterOf asks of each bit whether a ref has its place there.
func filterOf(l []api.Ref, bits int) []byte {
	var taken []int
	for _, r := range l {
		taken = append(taken, placesOf(r, bits)...)
	}
	filter := make([]byte, bits/8)
	for k := range bits {
		if slices.Contains(taken, k) {
			filter[k/8] += weights[k%8]
		}
	}
	return filter
}

// isIn asks the weights of a byte one by one, from the greatest down.
func isIn(filter []byte, r api.Ref) bool {
	for _, k := range placesOf(r, 8*len(filter)) {
		rest := filter[k/8]
		for at := 7; at > k%8; at-- {
			if rest >= weights[at] {
				rest -= weights[at]
			}
		}
		if rest < weights[k%8] {
			return false
		}
	}
	return true
}

// F1: Places of refs and bits at the edges, reckoned outside of the program.
func TestPlacesAtEdges(t *testing.T) {
	for _, c := range []struct {
		actor, seq, bits int
		want             [3]int
	}{
		{1, 1, 8, [3]int{4, 6, 2}},
		{1, 1, 16, [3]int{4, 6, 10}},
		{1, 1, 4088, [3]int{2460, 2326, 2354}},
		{1, 1, 4096, [3]int{260, 2678, 2858}},
		{99, 1, 8, [3]int{1, 5, 0}},
		{99, 1, 16, [3]int{1, 13, 8}},
		{99, 1, 4088, [3]int{1513, 3061, 2304}},
		{99, 1, 4096, [3]int{1185, 845, 824}},
		{1, 1_000_000, 8, [3]int{7, 6, 3}},
		{1, 1_000_000, 16, [3]int{7, 14, 11}},
		{1, 1_000_000, 4088, [3]int{367, 3926, 323}},
		{1, 1_000_000, 4096, [3]int{471, 78, 667}},
		{99, 1_000_000, 8, [3]int{5, 5, 0}},
		{99, 1_000_000, 16, [3]int{5, 5, 8}},
		{99, 1_000_000, 4088, [3]int{3509, 573, 272}},
		{99, 1_000_000, 4096, [3]int{1397, 2341, 2728}},
		{50, 500_000, 4096, [3]int{1585, 2981, 139}},
	} {
		got, err := Places(ref(c.actor, c.seq), c.bits)
		if err != nil || !slices.Equal(got, c.want[:]) {
			t.Errorf("Places(%d:%d, %d) = %v, %v, want %v", c.actor, c.seq, c.bits, got, err, c.want)
		}
	}
}

// F1: each number of bits that may be, and actors and Seqs of all sizes, against numbers without a bound.
func TestPlacesAgainstNumbersWithoutBound(t *testing.T) {
	dice := rand.New(rand.NewSource(11))
	l := edgeRefs()
	for actor := 1; actor <= api.MaxActor; actor++ {
		l = append(l, ref(actor, dice.Intn(api.MaxNum)+1))
	}
	for bits := 8; bits <= 4096; bits += 8 {
		for range 12 {
			r := l[dice.Intn(len(l))]
			got, err := Places(r, bits)
			if want := placesOf(r, bits); err != nil || !slices.Equal(got, want) {
				t.Fatalf("Places(%v, %d) = %v, %v, want %v", r, bits, got, err, want)
			}
		}
	}
	for _, r := range l {
		for _, bits := range edgeBits {
			got, err := Places(r, bits)
			if want := placesOf(r, bits); err != nil || !slices.Equal(got, want) {
				t.Fatalf("Places(%v, %d) = %v, %v, want %v", r, bits, got, err, want)
			}
		}
	}
}

// F1: three are told, also where two, or all, are one.
func TestPlacesThatAreOne(t *testing.T) {
	for _, c := range []struct {
		actor, seq, bits int
		want             [3]int
	}{
		{1, 51, 8, [3]int{0, 0, 0}},
		{1, 7, 8, [3]int{4, 4, 7}},
		{1, 3, 8, [3]int{1, 0, 1}},
		{1, 9, 8, [3]int{1, 6, 6}},
		{2, 1, 16, [3]int{2, 2, 8}},
		{1, 245, 16, [3]int{10, 10, 10}},
		{3, 1358, 4088, [3]int{111, 111, 3655}},
		{10, 51, 4088, [3]int{2910, 3551, 3551}},
		{1, 758, 4096, [3]int{1533, 1533, 2439}},
		{1, 212, 4096, [3]int{431, 313, 431}},
	} {
		got, err := Places(ref(c.actor, c.seq), c.bits)
		if err != nil || !slices.Equal(got, c.want[:]) {
			t.Errorf("Places(%d:%d, %d) = %v, %v, want %v", c.actor, c.seq, c.bits, got, err, c.want)
		}
	}
}

// F1: ErrRange of a ref that is none, of bits that may not be, and of both; and no places.
func TestPlacesWrong(t *testing.T) {
	ask := func(r api.Ref, bits int) {
		t.Helper()
		got, err := Places(r, bits)
		wantErr(t, fmt.Sprint("Places of ", r, bits), err, api.ErrRange)
		if len(got) != 0 {
			t.Errorf("Places(%v, %d) has an error and %v", r, bits, got)
		}
	}
	for _, r := range wrongRefs {
		for _, bits := range slices.Concat(edgeBits, wrongBits) {
			ask(r, bits)
		}
	}
	for _, r := range edgeRefs() {
		for _, bits := range wrongBits {
			ask(r, bits)
		}
	}
}

// F1: every number about the bounds of bits either may be or may not.
func TestWhichBitsMayBe(t *testing.T) {
	for bits := -20; bits <= 4120; bits++ {
		mayBe := slices.Contains([]int{8, 4096}, bits) || bits > 8 && bits < 4096 && bits%8 == 0
		places, err := Places(ref(1, 1), bits)
		filter, bad := Make(nil, bits)
		if (err == nil) != mayBe || (bad == nil) != mayBe {
			t.Errorf("bits %d: Places says %v, Make says %v", bits, err, bad)
		}
		if mayBe && (len(places) != 3 || 8*len(filter) != bits) {
			t.Errorf("bits %d: places %v, %d bytes", bits, places, len(filter))
		}
	}
}

// F1: actors and Seqs below, at and above their bounds, of each call.
func TestWhichRefsMayBe(t *testing.T) {
	for _, actor := range []int{-1, 0, 1, 2, 98, 99, 100, 101} {
		for _, seq := range []int{-1, 0, 1, 2, 999_999, 1_000_000, 1_000_001, 1_000_002} {
			mayBe := actor > 0 && actor < 100 && seq > 0 && seq < 1_000_001
			r := ref(actor, seq)
			_, err := Places(r, 64)
			_, bad := Make([]api.Ref{r}, 64)
			_, ill := Has(make([]byte, 8), r)
			if (err == nil) != mayBe || (bad == nil) != mayBe || (ill == nil) != mayBe {
				t.Errorf("ref %v: Places says %v, Make %v, Has %v", r, err, bad, ill)
			}
		}
	}
}

// F1: a filter of no refs has no bit that is 1, at each number of bits.
func TestMakeOfNone(t *testing.T) {
	for _, bits := range edgeBits {
		for _, l := range [][]api.Ref{nil, {}} {
			got, err := Make(l, bits)
			if err != nil || !slices.Equal(got, make([]byte, bits/8)) {
				t.Errorf("Make of none, %d bits = %v, %v", bits, got, err)
			}
		}
	}
}

// F1: which bit of which byte a place is, and that all others are 0.
func TestMakeOfOne(t *testing.T) {
	for _, c := range []struct {
		actor, seq, bits int
		want             map[int]byte
	}{
		{1, 1, 8, map[int]byte{0: 16 + 64 + 4}},                                  // 4, 6, 2
		{1, 1, 16, map[int]byte{0: 16 + 64, 1: 4}},                               // 4, 6, 10
		{99, 1, 16, map[int]byte{0: 2, 1: 32 + 1}},                               // 1, 13, 8
		{1, 1_000_000, 16, map[int]byte{0: 128, 1: 64 + 8}},                      // 7, 14, 11
		{1, 1, 4096, map[int]byte{32: 16, 334: 64, 357: 4}},                      // 260, 2678, 2858
		{99, 1_000_000, 4088, map[int]byte{438: 32, 71: 32, 34: 1}},              // 3509, 573, 272
		{1, 51, 8, map[int]byte{0: 1}},                                           // 0 three times
		{2, 1, 16, map[int]byte{0: 4, 1: 1}},                                     // 2, 2, 8
		{1, 9, 8, map[int]byte{0: 2 + 64}},                                       // 1, 6, 6
		{1, 758, 4096, map[int]byte{1533 / 8: 32, 2439 / 8: 128}},                // 1533 twice, 2439
		{50, 500_000, 4096, map[int]byte{1585 / 8: 2, 2981 / 8: 32, 139 / 8: 8}}, // 1585, 2981, 139
	} {
		want := make([]byte, c.bits/8)
		for at, b := range c.want {
			want[at] = b
		}
		got, err := Make(refs(c.actor, c.seq), c.bits)
		if err != nil || !slices.Equal(got, want) {
			t.Errorf("Make of %d:%d, %d bits = %v, %v, want %v", c.actor, c.seq, c.bits, got, err, want)
		}
	}
}

// F1: every place, whichever ref lies there, is one bit of one byte, and the others are 0.
func TestEachPlaceIsABitOfItsOwn(t *testing.T) {
	for _, bits := range []int{8, 16, 64, 4096} {
		seen := map[int]int{}
		for seq := 1; seq <= 600; seq++ {
			r := ref(seq%api.MaxActor+1, seq)
			got, err := Make([]api.Ref{r}, bits)
			if want := filterOf([]api.Ref{r}, bits); err != nil || !slices.Equal(got, want) {
				t.Fatalf("Make of %v, %d bits = %v, %v, want %v", r, bits, got, err, want)
			}
			for _, k := range placesOf(r, bits) {
				seen[k]++
			}
		}
		if len(seen) < min(bits, 1000) {
			t.Errorf("of %d places only %d were seen", bits, len(seen))
		}
	}
}

// F1: the same ref twice, and refs in another order, make the same filter.
func TestMakeOfTheSame(t *testing.T) {
	for _, bits := range edgeBits {
		one, err := Make(refs(7, 70), bits)
		two, bad := Make(refs(7, 70, 7, 70), bits)
		if err != nil || bad != nil || !slices.Equal(one, two) {
			t.Errorf("%d bits: once %v, %v, twice %v, %v", bits, one, err, two, bad)
		}
		l := refs(3, 1, 1, 9, 3, 1, 2, 4)
		there, err := Make(l, bits)
		slices.Reverse(l)
		back, bad := Make(l, bits)
		if err != nil || bad != nil || !slices.Equal(there, back) || !slices.Equal(there, filterOf(l, bits)) {
			t.Errorf("%d bits: %v, %v, turned round %v, %v", bits, there, err, back, bad)
		}
	}
}

// F1: MaxList refs are taken, one more is ErrFull, of the same ref or of others.
func TestMakeOfMany(t *testing.T) {
	for _, bits := range edgeBits {
		for _, l := range [][]api.Ref{manyRefs(401), slices.Repeat(refs(1, 1), 401)} {
			got, err := Make(l[:400], bits)
			if err != nil || !slices.Equal(got, filterOf(l[:400], bits)) {
				t.Errorf("Make of 400, %d bits: %v", bits, err)
			}
			for _, r := range l[:400] {
				if is, err := Has(got, r); err != nil || !is {
					t.Fatalf("%d bits: %v was put in: %v, %v", bits, r, is, err)
				}
			}
			got, err = Make(l, bits)
			wantErr(t, fmt.Sprint("Make of 401, bits ", bits), err, api.ErrFull)
			if len(got) != 0 {
				t.Errorf("Make of 401 has an error and %v", got)
			}
		}
	}
}

// F1: ErrRange of a ref that is none, wherever it stands, and of wrong bits, with refs or without; and no bytes.
func TestMakeWrong(t *testing.T) {
	ask := func(l []api.Ref, bits int) {
		t.Helper()
		got, err := Make(l, bits)
		wantErr(t, fmt.Sprint("Make of ", len(l), " refs, bits ", bits), err, api.ErrRange)
		if len(got) != 0 {
			t.Errorf("Make has an error and %v", got)
		}
	}
	for _, r := range wrongRefs {
		for _, bits := range slices.Concat(edgeBits, wrongBits[:4]) {
			for _, n := range []int{1, 2, 5, 400} {
				for _, at := range []int{0, n / 2, n - 1} {
					l := manyRefs(n)
					l[at] = r
					ask(l, bits)
				}
			}
		}
	}
	for _, bits := range wrongBits {
		for _, n := range []int{0, 1, 2, 400} {
			ask(manyRefs(n), bits)
		}
	}
}

// F1: that there are too many is told ahead of what is wrong with one of them or with bits.
func TestMakeTellsTooManyFirst(t *testing.T) {
	for _, at := range []int{0, 200, 400} {
		for _, bits := range []int{64, 0, -8, 12, 4104} {
			l := manyRefs(401)
			l[at] = ref(0, 0)
			got, err := Make(l, bits)
			wantErr(t, fmt.Sprint("Make of 401, one none, bits ", bits), err, api.ErrFull)
			if len(got) != 0 {
				t.Errorf("Make has an error and %v", got)
			}
		}
	}
	_, err := Make(manyRefs(401), 12)
	wantErr(t, "Make of 401, 12 bits", err, api.ErrFull)
}

// F1: what was put in is there, of few and many refs and of all sizes; and what is said of others is what their bits say.
func TestWhatWasPutInIsThere(t *testing.T) {
	dice := rand.New(rand.NewSource(12))
	for range 150 {
		bits := 8 * (dice.Intn(512) + 1)
		var l []api.Ref
		for range dice.Intn(60) {
			l = append(l, ref(dice.Intn(99)+1, dice.Intn(1_000_000)+1))
		}
		filter, err := Make(l, bits)
		if err != nil || !slices.Equal(filter, filterOf(l, bits)) {
			t.Fatalf("Make of %v, %d bits = %v, %v", l, bits, filter, err)
		}
		for _, r := range l {
			if is, err := Has(filter, r); err != nil || !is {
				t.Fatalf("%v was put in: %v, %v", r, is, err)
			}
		}
		for range 60 {
			r := ref(dice.Intn(99)+1, dice.Intn(1_000_000)+1)
			if is, err := Has(filter, r); err != nil || is != isIn(filter, r) {
				t.Fatalf("Has of %v in %v = %v, %v", r, filter, is, err)
			}
		}
	}
}

// F1: Has asks the bits of any bytes, not only of those that Make has made.
func TestHasOfAnyBytes(t *testing.T) {
	dice := rand.New(rand.NewSource(13))
	yes := 0
	for range 3000 {
		b := make([]byte, dice.Intn(512)+1)
		for i := range b {
			b[i] = byte(dice.Intn(256)) | byte(dice.Intn(256))
		}
		r := ref(dice.Intn(99)+1, dice.Intn(1_000_000)+1)
		is, err := Has(b, r)
		if err != nil || is != isIn(b, r) {
			t.Fatalf("Has of %v in %d bytes = %v, %v", r, len(b), is, err)
		}
		if is {
			yes++
		}
	}
	if yes == 0 || yes == 3000 {
		t.Errorf("%d of 3000 may be there: the bytes tell nothing", yes)
	}
}

// F1: a ref is there only while none of its bits is 0, and no other bit counts.
func TestHasAsksEachPlaceAndNoOther(t *testing.T) {
	for _, r := range edgeRefs() {
		for _, bits := range edgeBits {
			places := placesOf(r, bits)
			only, full := make([]byte, bits/8), slices.Repeat([]byte{255}, bits/8)
			for _, k := range places {
				only[k/8] |= weights[k%8]
			}
			if is, err := Has(only, r); err != nil || !is {
				t.Errorf("%v: its own bits alone, of %d: %v, %v", r, bits, is, err)
			}
			for _, k := range places {
				full[k/8] -= weights[k%8]
				if is, err := Has(full, r); err != nil || is {
					t.Errorf("%v: all bits but %d of %d: %v, %v", r, k, bits, is, err)
				}
				full[k/8] += weights[k%8]
			}
		}
	}
}

// F1: Has of a ref that was not put in, by hand.
func TestHasOfOneThatWasNotPutIn(t *testing.T) {
	filter, err := Make(refs(1, 1, 3, 1), 64)
	if err != nil || !slices.Equal(filter, []byte{16, 0, 0, 0, 129, 68, 64, 0}) {
		t.Fatal(filter, err)
	}
	for _, r := range refs(1, 1, 3, 1) {
		if is, err := Has(filter, r); err != nil || !is {
			t.Errorf("%v was put in: %v, %v", r, is, err)
		}
	}
	for _, r := range refs(2, 3, 1, 4, 99, 1_000_000) {
		if is, err := Has(filter, r); err != nil || is {
			t.Errorf("%v was not put in: %v, %v", r, is, err)
		}
	}
	// 3:1 lies at 0, 6 and 7 of 8, which others have filled: it may be there.
	small, err := Make(refs(1, 3, 1, 2, 1, 2, 2, 4), 8)
	if err != nil || !slices.Equal(small, []byte{239}) {
		t.Fatal(small, err)
	}
	if is, err := Has(small, ref(3, 1)); err != nil || !is {
		t.Errorf("3:1 may be there: %v, %v", is, err)
	}
}

// F1: bytes that are all 0 have nothing, bytes that are all 255 have all; one byte and 512 are filters.
func TestHasOfEmptyAndFull(t *testing.T) {
	for _, n := range []int{1, 2, 3, 8, 511, 512} {
		for _, r := range edgeRefs() {
			if is, err := Has(make([]byte, n), r); err != nil || is {
				t.Errorf("Has of %v in %d bytes of 0: %v, %v", r, n, is, err)
			}
			if is, err := Has(slices.Repeat([]byte{255}, n), r); err != nil || !is {
				t.Errorf("Has of %v in %d bytes of 255: %v, %v", r, n, is, err)
			}
		}
	}
}

// F1: ErrShape of no bytes and of more than 512, ahead of a ref that is none; ErrRange of that one; and nothing is there.
func TestHasWrong(t *testing.T) {
	for _, n := range []int{0, 513, 514, 1024, 5000, 1 << 20} {
		full := slices.Repeat([]byte{255}, n)
		for _, r := range slices.Concat(edgeRefs(), wrongRefs) {
			is, err := Has(full, r)
			wantErr(t, fmt.Sprint("Has of ", n, " bytes"), err, api.ErrShape)
			if is {
				t.Errorf("Has of %d bytes has an error and yes", n)
			}
		}
	}
	_, err := Has(nil, ref(1, 1))
	wantErr(t, "Has of nil", err, api.ErrShape)
	for _, n := range []int{1, 2, 511, 512} {
		full := slices.Repeat([]byte{255}, n)
		for _, r := range wrongRefs {
			is, err := Has(full, r)
			wantErr(t, fmt.Sprint("Has of ", r), err, api.ErrRange)
			if is {
				t.Errorf("Has of %v has an error and yes", r)
			}
		}
	}
}

// P2: no list that is handed in is written into, nor what lies behind it, whether the call has an error or not.
func TestNothingHandedInIsChanged(t *testing.T) {
	for _, bits := range []int{8, 4096, 12} {
		for _, last := range refs(5, 5, 0, 0) {
			roomy := append(manyRefs(30), last, ref(77, 77), ref(0, -1))
			kept := slices.Clone(roomy)
			Make(roomy[:31], bits)
			if !slices.Equal(roomy, kept) {
				t.Errorf("Make of %d bits, %v: the refs are %v now", bits, last, roomy)
			}
		}
	}
	for _, r := range refs(1, 1, 99, 1_000_000, 0, 0) {
		roomy := slices.Repeat([]byte{255, 0, 7}, 171)
		kept := slices.Clone(roomy)
		for _, n := range []int{0, 1, 100, 512, 513} {
			Has(roomy[:n], r)
			if !slices.Equal(roomy, kept) {
				t.Errorf("Has of %d bytes, %v: they are changed", n, r)
			}
		}
	}
}

// P4: what lies behind a list's length is not read.
func TestNothingIsReadBehindALength(t *testing.T) {
	manyMore := append(refs(4, 4), manyRefs(500)...)
	manyMore[1] = ref(0, 0)
	got, err := Make(manyMore[:1], 4096)
	if err != nil || !slices.Equal(got, filterOf(refs(4, 4), 4096)) {
		t.Errorf("Make reads behind its refs: %v", err)
	}
	roomy := append(make([]byte, 2), slices.Repeat([]byte{255}, 600)...)
	for _, r := range edgeRefs() {
		if is, err := Has(roomy[:2], r); err != nil || is {
			t.Errorf("Has of %v reads behind its bytes: %v, %v", r, is, err)
		}
	}
}

// P2: what is answered is the caller's, to its capacity, and no later call tells what he does with it.
func TestWhatIsAnsweredIsNotShared(t *testing.T) {
	l := refs(1, 1, 2, 2)
	places, err := Places(l[0], 4096)
	if err != nil {
		t.Fatal(err)
	}
	places = places[:cap(places)]
	for i := range places {
		places[i] = -1
	}
	filter, err := Make(l, 4096)
	if err != nil {
		t.Fatal(err)
	}
	filter = filter[:cap(filter)]
	for i := range filter {
		filter[i] = 255
	}
	again, err := Places(l[0], 4096)
	if err != nil || !slices.Equal(again, []int{260, 2678, 2858}) {
		t.Errorf("Places again: %v, %v", again, err)
	}
	anew, err := Make(l, 4096)
	if err != nil || !slices.Equal(anew, filterOf(l, 4096)) {
		t.Errorf("Make again: %v", err)
	}
	if !slices.Equal(l, refs(1, 1, 2, 2)) {
		t.Errorf("the refs are %v now", l)
	}
}
