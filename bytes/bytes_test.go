package bytes

import (
	"math"
	"slices"
	"testing"

	"commonbook/api"
	"commonbook/plain"
)

const least, greatest = math.MinInt, math.MaxInt

// pieces of pairs: how many, and of which number.
func pieces(pairs ...int) (p []api.Piece) {
	for i := 0; i < len(pairs); i += 2 {
		p = append(p, api.Piece{Many: pairs[i], Num: pairs[i+1]})
	}
	return p
}

// repeat gives so many of one thing.
func repeat[T any](n int, x T) []T { return slices.Repeat([]T{x}, n) }

// fill gives a byte so many times, and then others.
func fill(n int, c byte, then ...byte) []byte { return append(repeat(n, c), then...) }

// wide gives a list with other numbers behind its length, and those numbers.
func wide[T any](l []T, other T) (short, behind []T) {
	all := append(slices.Clone(l), other, other, other)
	return all[:len(l)], all[len(l):]
}

// checkErr asks for an error, and that nothing is answered beside it.
func checkErr(t *testing.T, of any, err error, want api.Errno, rest ...int) {
	t.Helper()
	if plain.Told(err) != want {
		t.Errorf("%v: error %v, want %v", of, err, want)
	}
	for _, n := range rest {
		if n != 0 {
			t.Errorf("%v: %v beside an error", of, rest)
		}
	}
}

// written are numbers, and how Put writes them.
var written = []struct {
	n uint64
	b []byte
}{
	{0, []byte{0}},
	{1, []byte{1}},
	{127, []byte{127}},
	{128, []byte{128, 1}},
	{129, []byte{129, 1}},
	{255, []byte{255, 1}},
	{256, []byte{128, 2}},
	{300, []byte{172, 2}},
	{16_383, []byte{255, 127}},
	{16_384, []byte{128, 128, 1}},
	{1_000_000, []byte{192, 132, 61}},
	{1<<56 - 1, fill(7, 255, 127)},
	{1 << 56, fill(8, 128, 1)},
	{1<<63 - 1, fill(8, 255, 127)},
	{1 << 63, fill(9, 128, 1)},
	{1<<63 + 1, append([]byte{129}, fill(8, 128, 1)...)},
	{math.MaxUint64, fill(9, 255, 1)},
}

// B1
func TestPutAndGet(t *testing.T) {
	for _, w := range written {
		if b := Put(w.n); !slices.Equal(b, w.b) {
			t.Errorf("Put(%d) = %v, want %v", w.n, b, w.b)
		}
		for _, tail := range [][]byte{nil, {0}, {255}, {1, 2, 3}} {
			n, size, err := Get(append(slices.Clone(w.b), tail...))
			if n != w.n || size != len(w.b) || err != nil {
				t.Errorf("Get(%v and %v) = %d, %d, %v", w.b, tail, n, size, err)
			}
		}
	}
}

// B1
func TestPutEveryBit(t *testing.T) {
	for bit := range 64 {
		for _, n := range []uint64{1<<bit - 1, 1 << bit, 1<<bit | 1, 1<<bit | 1<<63} {
			b := Put(n)
			got, size, err := Get(b)
			if got != n || size != len(b) || err != nil {
				t.Errorf("Get(Put(%d)) = %d, %d, %v", n, got, size, err)
			}
		}
		if size := len(Put(1 << bit)); size != bit/7+1 {
			t.Errorf("Put(1 << %d) takes %d bytes", bit, size)
		}
	}
}

// unwritten are bytes that begin with no number.
var unwritten = [][]byte{
	nil,
	{},
	// not as few as can be
	{128, 0},
	{129, 0},
	{255, 0},
	{128, 128, 0},
	{172, 130, 0},
	{128, 0, 1},
	fill(8, 128, 0),
	fill(9, 128, 0),
	fill(9, 255, 0),
	fill(10, 128, 0),
	fill(10, 255, 0),
	// ended too early
	{128},
	{255},
	{172, 130},
	fill(8, 255),
	fill(9, 255),
	fill(10, 255),
	// more than 64 bits
	fill(9, 128, 2),
	fill(9, 255, 2),
	fill(9, 255, 3),
	fill(9, 128, 64),
	fill(9, 255, 127),
	fill(9, 128, 129),
	fill(9, 255, 129, 0),
	fill(9, 128, 128, 1),
	fill(10, 255, 1),
	fill(10, 128, 1),
	fill(40, 128, 1),
	fill(1000, 255, 1),
}

// B1
func TestGetRefuses(t *testing.T) {
	for _, b := range unwritten {
		n, size, err := Get(b)
		checkErr(t, b, err, api.ErrFile, int(n), size)
		m, size, err := GetSigned(b)
		checkErr(t, b, err, api.ErrFile, m, size)
	}
}

// B1: what Get takes of all short bytes is just what Put writes.
func TestGetTakesOnlyWhatPutWrites(t *testing.T) {
	for first := range 256 {
		for second := range 256 {
			b := []byte{byte(first), byte(second)}
			n, size, err := Get(b)
			switch {
			case first < 128:
				if n != uint64(first) || size != 1 || err != nil {
					t.Errorf("Get(%v) = %d, %d, %v", b, n, size, err)
				}
			case second > 0 && second < 128:
				if n != uint64(first-128+second*128) || size != 2 || err != nil {
					t.Errorf("Get(%v) = %d, %d, %v", b, n, size, err)
				}
			default:
				checkErr(t, b, err, api.ErrFile, int(n), size)
			}
		}
	}
}

// B1
func TestPutAndGetSigned(t *testing.T) {
	for _, c := range []struct {
		n       int
		doubled uint64
	}{
		{0, 0}, {-1, 1}, {1, 2}, {-2, 3}, {2, 4}, {63, 126}, {-64, 127}, {64, 128}, {-65, 129},
		{150, 300}, {-1_000_000, 1_999_999}, {1_000_000, 2_000_000},
		{1 << 62, 1 << 63}, {-1 << 62, 1<<63 - 1}, {1<<62 - 1, 1<<63 - 2}, {-1<<62 - 1, 1<<63 + 1},
		{greatest, math.MaxUint64 - 1}, {least, math.MaxUint64}, {least + 1, math.MaxUint64 - 2},
	} {
		b := PutSigned(c.n)
		if !slices.Equal(b, Put(c.doubled)) {
			t.Errorf("PutSigned(%d) = %v, want %v", c.n, b, Put(c.doubled))
		}
		n, size, err := GetSigned(append(slices.Clone(b), 0, 255))
		if n != c.n || size != len(b) || err != nil {
			t.Errorf("GetSigned(%v) = %d, %d, %v, want %d, %d", b, n, size, err, c.n, len(b))
		}
	}
	if b := PutSigned(least); !slices.Equal(b, fill(9, 255, 1)) {
		t.Errorf("PutSigned of the least number: %v", b)
	}
}

// B2
func TestRunsAndSpread(t *testing.T) {
	for _, c := range []struct {
		l []int
		p []api.Piece
	}{
		{nil, nil},
		{[]int{0}, pieces(1, 0)},
		{[]int{7}, pieces(1, 7)},
		{[]int{7, 7}, pieces(2, 7)},
		{[]int{1, 2}, pieces(1, 1, 1, 2)},
		{[]int{0, 0, 1}, pieces(2, 0, 1, 1)},
		{[]int{1, 0, 0}, pieces(1, 1, 2, 0)},
		{[]int{5, 5, 6, 5, 5, 5}, pieces(2, 5, 1, 6, 3, 5)},
		{[]int{least, least, greatest, -1, -1}, pieces(2, least, 1, greatest, 2, -1)},
		{repeat(400, 3), pieces(400, 3)},
		{append(repeat(399, 3), 4), pieces(399, 3, 1, 4)},
	} {
		if p := Runs(c.l); !slices.Equal(p, c.p) {
			t.Errorf("Runs(%v) = %v, want %v", c.l, p, c.p)
		}
		if l, err := Spread(c.p); !slices.Equal(l, c.l) || err != nil {
			t.Errorf("Spread(%v) = %v, %v", c.p, l, err)
		}
	}
}

// B2
func TestRunsOfMoreThanMaxList(t *testing.T) {
	if p := Runs(repeat(401, 9)); !slices.Equal(p, pieces(401, 9)) {
		t.Errorf("Runs of 401 alike numbers: %v", p)
	}
}

// B2: pieces of one number that stand together are not as Runs makes them, and are spread all the same.
func TestSpreadOfAlikePieces(t *testing.T) {
	l, err := Spread(pieces(1, 5, 2, 5))
	if !slices.Equal(l, []int{5, 5, 5}) || err != nil {
		t.Errorf("Spread = %v, %v", l, err)
	}
}

// B2
func TestSpreadRefuses(t *testing.T) {
	for _, c := range []struct {
		p    []api.Piece
		want api.Errno
	}{
		{pieces(0, 1), api.ErrRange},
		{pieces(-1, 1), api.ErrRange},
		{pieces(least, 1), api.ErrRange},
		{pieces(1, 1, 0, 2), api.ErrRange},
		{pieces(0, 1, 1, 1), api.ErrRange},
		{pieces(401, 1), api.ErrFull},
		{pieces(greatest, 1), api.ErrFull},
		{pieces(400, 1, 1, 2), api.ErrFull},
		{pieces(400, 1, greatest, 2), api.ErrFull},
		{pieces(1, 1, greatest, 2), api.ErrFull},
		{pieces(200, 1, 201, 1), api.ErrFull},
		{pieces(greatest, 1, greatest, 1, 2, 1), api.ErrFull},
		// it is told at the piece with which there are too many
		{pieces(401, 1, 0, 1), api.ErrFull},
		{pieces(400, 1, 1, 1, 0, 1), api.ErrFull},
		{pieces(0, 1, 401, 1), api.ErrRange},
		{pieces(400, 1, 0, 1, 1, 1), api.ErrRange},
		{pieces(400, 1, -1, 1, 1, 1), api.ErrRange},
		{pieces(401, 1, -1, 1), api.ErrFull},
	} {
		l, err := Spread(c.p)
		checkErr(t, c.p, err, c.want, len(l))
	}
}

// B2
func TestDeltasAndSums(t *testing.T) {
	for _, c := range []struct{ l, d []int }{
		{nil, nil},
		{[]int{0}, []int{0}},
		{[]int{5}, []int{5}},
		{[]int{-5}, []int{-5}},
		{[]int{5, 6, 7, 7}, []int{5, 1, 1, 0}},
		{[]int{3, 1, -1}, []int{3, -2, -2}},
		{[]int{greatest, least}, []int{greatest, 1}},
		{[]int{least, greatest}, []int{least, -1}},
		{[]int{least, 0, least}, []int{least, least, least}},
		{[]int{1, least}, []int{1, greatest}},
		{[]int{-1, greatest}, []int{-1, least}},
		{repeat(401, 2), append([]int{2}, repeat(400, 0)...)},
	} {
		if d := Deltas(c.l); !slices.Equal(d, c.d) {
			t.Errorf("Deltas(%v) = %v, want %v", c.l, d, c.d)
		}
		if l := Sums(c.d); !slices.Equal(l, c.l) {
			t.Errorf("Sums(%v) = %v, want %v", c.d, l, c.l)
		}
	}
}

// B2
func TestFlagsAndUnflag(t *testing.T) {
	for _, c := range []struct {
		flags []bool
		l     []int
	}{
		{nil, nil},
		{[]bool{false}, []int{1}},
		{[]bool{true}, []int{0, 1}},
		{[]bool{true, true}, []int{0, 2}},
		{[]bool{false, true, true}, []int{1, 2}},
		{[]bool{true, false}, []int{0, 1, 1}},
		{[]bool{false, false, true, false, true, true}, []int{2, 1, 1, 2}},
		{repeat(400, false), []int{400}},
		{repeat(400, true), []int{0, 400}},
		{append(repeat(399, true), false), []int{0, 399, 1}},
	} {
		if l := Flags(c.flags); !slices.Equal(l, c.l) {
			t.Errorf("Flags(%v) = %v, want %v", c.flags, l, c.l)
		}
		if flags, err := Unflag(c.l); !slices.Equal(flags, c.flags) || err != nil {
			t.Errorf("Unflag(%v) = %v, %v", c.l, flags, err)
		}
	}
	if l := Flags(repeat(401, true)); !slices.Equal(l, []int{0, 401}) {
		t.Errorf("Flags of 401 true ones: %v", l)
	}
}

// B2
func TestUnflagRefuses(t *testing.T) {
	for _, c := range []struct {
		l    []int
		want api.Errno
	}{
		{[]int{-1}, api.ErrRange},
		{[]int{least}, api.ErrRange},
		{[]int{-1, 2}, api.ErrRange},
		{[]int{1, 0}, api.ErrRange},
		{[]int{0, 0}, api.ErrRange},
		{[]int{1, -1}, api.ErrRange},
		{[]int{1, 2, 0}, api.ErrRange},
		{[]int{1, 2, least}, api.ErrRange},
		{[]int{401}, api.ErrFull},
		{[]int{greatest}, api.ErrFull},
		{[]int{0, 401}, api.ErrFull},
		{[]int{0, greatest}, api.ErrFull},
		{[]int{400, 1}, api.ErrFull},
		{[]int{1, greatest}, api.ErrFull},
		{[]int{greatest, greatest, 2}, api.ErrFull},
		{repeat(401, 1), api.ErrFull},
		{[]int{0}, api.ErrShape},
		// a number that is none is named ahead of too many
		{[]int{401, 0}, api.ErrRange},
		{[]int{greatest, 1, -1}, api.ErrRange},
	} {
		flags, err := Unflag(c.l)
		checkErr(t, c.l, err, c.want, len(flags))
	}
}

// packed are numbers, and how Pack writes them.
var packed = []struct {
	l []int
	b []byte
}{
	{nil, []byte{0}},
	{[]int{0}, []byte{1, 1, 0}},
	{[]int{1}, []byte{1, 1, 2}},
	{[]int{-1}, []byte{1, 1, 1}},
	{[]int{5, 6, 7, 7}, []byte{4, 1, 10, 2, 2, 1, 0}},
	{[]int{1, 2, 3}, []byte{3, 3, 2}},
	{[]int{3, 2, 1}, []byte{3, 1, 6, 2, 1}},
	{[]int{150}, []byte{1, 1, 172, 2}},
	{[]int{greatest, least}, append(append([]byte{2, 1, 254}, fill(8, 255, 1)...), 1, 2)},
	{[]int{least}, append([]byte{1, 1}, fill(9, 255, 1)...)},
	{repeat(128, 0), []byte{128, 1, 128, 1, 0}},
	{repeat(399, 0), []byte{143, 3, 143, 3, 0}},
	{repeat(400, 0), []byte{144, 3, 144, 3, 0}},
	{repeat(400, 1), []byte{144, 3, 1, 2, 143, 3, 0}},
}

// B3
func TestPackAndUnpack(t *testing.T) {
	for _, w := range packed {
		b, err := Pack(w.l)
		if !slices.Equal(b, w.b) || err != nil {
			t.Errorf("Pack(%v) = %v, %v, want %v", w.l, b, err, w.b)
		}
		// what stands behind is not looked at: not a piece more, not bytes that are no number
		for _, tail := range [][]byte{nil, {0}, {1, 0}, {1, 9}, {255}, {128, 0}} {
			l, size, err := Unpack(append(slices.Clone(w.b), tail...))
			if !slices.Equal(l, w.l) || size != len(w.b) || err != nil {
				t.Errorf("Unpack(%v and %v) = %v, %d, %v", w.b, tail, l, size, err)
			}
		}
		for cut := range w.b {
			l, size, err := Unpack(w.b[:cut])
			checkErr(t, w.b[:cut], err, api.ErrFile, len(l), size)
		}
	}
}

// B3
func TestPackOfTooMany(t *testing.T) {
	for _, many := range []int{401, 402, 100_000} {
		b, err := Pack(repeat(many, 7))
		checkErr(t, many, err, api.ErrFull, len(b))
	}
}

// B3
func TestUnpackRefuses(t *testing.T) {
	join := func(l ...[]byte) []byte { return slices.Concat(l...) }
	for _, b := range [][]byte{
		nil,
		{1},
		{1, 1},
		{1, 1, 128},
		// numbers that are not as few bytes as can be
		{128, 0},
		{129, 0, 1, 0},
		{1, 129, 0, 0},
		{1, 1, 128, 0},
		{0x80, 0x80, 0},
		// no piece has none, nor more than there are
		{1, 0, 0, 1, 0},
		{1, 0, 0},
		{2, 1, 0, 0, 2, 1, 4},
		{1, 2, 0},
		{2, 1, 0, 2, 2},
		{2, 3, 0},
		{0x90, 3, 0x91, 3, 0},
		join([]byte{1}, Put(math.MaxUint64), []byte{0}),
		join([]byte{1}, Put(1<<63), []byte{0}),
		join([]byte{2}, Put(1<<63+2), []byte{0}),
		join([]byte{2, 1, 0}, Put(math.MaxUint64), []byte{2, 1, 4}),
		// alike numbers in two pieces
		{2, 1, 0, 1, 0},
		{2, 1, 2, 1, 2},
		{3, 2, 2, 1, 2},
		{4, 1, 0, 1, 2, 2, 2},
		// fewer than there are
		{3, 1, 0, 1, 2},
		{2, 1, 0},
		// more than MaxList
		{0x91, 3, 0x91, 3, 0},
		{0x91, 3, 0x90, 3, 0, 1, 2},
		join(Put(math.MaxUint64), []byte{1, 0}),
		join(Put(1<<63), []byte{1, 0}),
		join(Put(1<<32), []byte{1, 0}),
		// more than 64 bits
		join(fill(9, 255, 2), []byte{1, 0}),
		join([]byte{1}, fill(9, 255, 2), []byte{0}),
		join([]byte{1, 1}, fill(9, 255, 2)),
	} {
		l, size, err := Unpack(b)
		checkErr(t, b, err, api.ErrFile, len(l), size)
	}
}

// B3: what Unpack takes of many short bytes is just what Pack writes, and each of that is taken.
func TestUnpackTakesOnlyWhatPackWrites(t *testing.T) {
	some := []byte{0, 1, 2, 3, 4, 128, 129, 255}
	taken := 0
	var grow func(b []byte)
	grow = func(b []byte) {
		l, size, err := Unpack(b)
		if err == nil {
			back, err := Pack(l)
			if err != nil || !slices.Equal(back, b[:size]) {
				t.Errorf("Unpack(%v) = %v, %d, but Pack writes %v, %v", b, l, size, back, err)
			}
			taken++
		}
		if len(b) < 5 {
			for _, c := range some {
				grow(append(slices.Clone(b), c))
			}
		}
	}
	grow(nil)
	if taken == 0 {
		t.Error("nothing was taken")
	}
	nums := []int{0, 1, -1, least}
	var lists func(l []int)
	lists = func(l []int) {
		b, err := Pack(l)
		back, size, bad := Unpack(b)
		if err != nil || bad != nil || size != len(b) || !slices.Equal(back, l) {
			t.Errorf("Unpack(Pack(%v)) = %v, %d, %v, %v", l, back, size, err, bad)
		}
		if len(l) < 5 {
			for _, n := range nums {
				lists(append(slices.Clone(l), n))
			}
		}
	}
	lists(nil)
}

// P2, P4: lists that are handed in stay, and so does what stands behind them.
func TestNothingHandedInIsWritten(t *testing.T) {
	nums, behindNums := wide([]int{2, 1, 1}, 1)
	flags, behindFlags := wide([]bool{true, false}, false)
	parts, behindParts := wide(pieces(2, 5), api.Piece{Many: 1, Num: 5})
	b, behindBytes := wide([]byte{2, 1, 4}, 1)

	if p := Runs(nums); !slices.Equal(p, pieces(1, 2, 2, 1)) {
		t.Errorf("Runs reads behind: %v", p)
	}
	Deltas(nums)
	Sums(nums)
	Pack(nums)
	Unflag(nums)
	Flags(flags)
	Spread(parts)
	if l, _, err := Unpack(b); err == nil {
		t.Errorf("Unpack reads behind: %v", l)
	}
	if n, _, err := Get(slices.Clip(fill(2, 128, 1))[:2]); err == nil {
		t.Errorf("Get reads behind: %d", n)
	}
	GetSigned(b)

	if !slices.Equal(nums, []int{2, 1, 1}) || !slices.Equal(behindNums, []int{1, 1, 1}) {
		t.Errorf("numbers written: %v %v", nums, behindNums)
	}
	if !slices.Equal(flags, []bool{true, false}) || !slices.Equal(behindFlags, repeat(3, false)) {
		t.Errorf("flags written: %v %v", flags, behindFlags)
	}
	if !slices.Equal(parts, pieces(2, 5)) || !slices.Equal(behindParts, pieces(1, 5, 1, 5, 1, 5)) {
		t.Errorf("pieces written: %v %v", parts, behindParts)
	}
	if !slices.Equal(b, []byte{2, 1, 4}) || !slices.Equal(behindBytes, []byte{1, 1, 1}) {
		t.Errorf("bytes written: %v %v", b, behindBytes)
	}
}

// P2: what comes out is the caller's: writing into it changes no argument and no later answer.
func TestAnswersAreFresh(t *testing.T) {
	nums := []int{0, 0, 0}
	Deltas(nums)[0] = 9
	Sums(nums)[0] = 9
	l, _ := Spread(Runs(nums))
	l[0] = 9
	Put(0)[0] = 9
	PutSigned(0)[0] = 9
	Flags([]bool{false})[0] = 9
	b, _ := Pack(nums)
	b[0] = 9
	if !slices.Equal(nums, []int{0, 0, 0}) {
		t.Errorf("an answer shares memory with its argument: %v", nums)
	}
	again, _ := Pack(nums)
	if !slices.Equal(again, []byte{3, 3, 0}) || Put(0)[0] != 0 || PutSigned(0)[0] != 0 || Flags([]bool{false})[0] != 1 {
		t.Error("an answer shares memory with an earlier one")
	}
}
