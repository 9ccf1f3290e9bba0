package digit_test

import (
	"math"
	"math/big"
	"math/rand"
	"regexp"
	"slices"
	"strings"
	"testing"

	"yardarm/api"
	"yardarm/digit"
)

// edges are numbers at which texts, sums and products turn.
var edges = []int64{
	0, 1, -1, 2, -2, 3, -3, 9, 10, -10, 99, 100, -120,
	math.MaxInt32, math.MinInt32, math.MaxUint32, 1 << 32, -1 << 32, 3037000499, 3037000500, -3037000500,
	math.MaxInt64 / 10, math.MinInt64 / 10, 1 << 62, -1 << 62,
	math.MaxInt64, math.MaxInt64 - 1, math.MinInt64, math.MinInt64 + 1,
}

var (
	asNumber = regexp.MustCompile(`^(0|-?[1-9][0-9]*)$`)
	asHead   = regexp.MustCompile(`^-?[0-9]+`)
)

// numbers tells the edges, and numbers of all sizes.
func numbers() []int64 {
	r := rand.New(rand.NewSource(3))
	all := slices.Clone(edges)
	for range 10000 {
		all = append(all, int64(r.Uint64())>>r.Intn(64))
	}
	return all
}

// texts tells all texts of at most n of the pieces.
func texts(pieces []string, n int) []string {
	all := []string{""}
	for ahead := all; n > 0; n-- {
		var longer []string
		for _, s := range ahead {
			for _, p := range pieces {
				longer = append(longer, s+p)
			}
		}
		all, ahead = append(all, longer...), longer
	}
	return all
}

// odd has what texts of numbers are made of, and what only seems so.
func odd() []string {
	return texts([]string{"-", "+", "0", "1", "9", "/", ":", " ", "a", "é", "٣", "\xff", "\x00"}, 4)
}

// wantRead tells what Read must answer, by big numbers.
func wantRead(s string) (int64, api.Errno) {
	if !asNumber.MatchString(s) {
		return 0, api.ErrDigit
	}
	n, _ := new(big.Int).SetString(s, 10)
	if !n.IsInt64() {
		return 0, api.ErrRange
	}
	return n.Int64(), api.OK
}

func checkRead(t *testing.T, s string) {
	t.Helper()
	want, wantErr := wantRead(s)
	if n, err := digit.Read(s); n != want || err != wantErr {
		t.Errorf("Read(%q) is %d, %d; not %d, %d", s, n, err, want, wantErr)
	}
}

// P1.1: the number's text.
func TestText(t *testing.T) {
	for _, n := range numbers() {
		if s, want := digit.Text(n), big.NewInt(n).String(); s != want {
			t.Errorf("Text(%d) is %q", n, s)
		}
	}
}

// P1.1: numbers, what is none, and what does not fit.
func TestRead(t *testing.T) {
	for _, c := range []struct {
		s   string
		n   int64
		err api.Errno
	}{
		{"0", 0, api.OK},
		{"7", 7, api.OK},
		{"-120", -120, api.OK},
		{"1000", 1000, api.OK},
		{"9223372036854775807", math.MaxInt64, api.OK},
		{"-9223372036854775808", math.MinInt64, api.OK},
		{"9223372036854775808", 0, 111},
		{"-9223372036854775809", 0, 111},
		{"9223372036854775810", 0, 111},
		{"18446744073709551616", 0, 111},
		{"18446744073709551617", 0, 111},
		{"-18446744073709551615", 0, 111},
		{"", 0, 110},
		{"-", 0, 110},
		{"--1", 0, 110},
		{"+1", 0, 110},
		{"-0", 0, 110},
		{"-01", 0, 110},
		{"00", 0, 110},
		{"01", 0, 110},
		{"1-", 0, 110},
		{"1 ", 0, 110},
		{" 1", 0, 110},
		{"1_0", 0, 110},
		{"0x1", 0, 110},
		{"1.0", 0, 110},
		{"1e3", 0, 110},
		{"٣", 0, 110},
		{"1٣", 0, 110},
		{"1\xff", 0, 110},
		{"1\x00", 0, 110},
	} {
		if n, err := digit.Read(c.s); n != c.n || err != c.err {
			t.Errorf("Read(%q) is %d, %d; not %d, %d", c.s, n, err, c.n, c.err)
		}
	}
}

// P1.1, R1: every text is a number's, or has one of the errors.
func TestReadAll(t *testing.T) {
	for _, s := range odd() {
		checkRead(t, s)
	}
}

// P1.1: beside each end of what fits.
func TestReadNearEnds(t *testing.T) {
	for _, end := range []int64{math.MaxInt64, math.MinInt64} {
		for d := int64(-30); d <= 30; d++ {
			checkRead(t, new(big.Int).Add(big.NewInt(end), big.NewInt(d)).String())
		}
	}
}

// P1.1, R2: what does not look like a number is told ahead of what does not fit, however far behind it stands.
func TestReadLong(t *testing.T) {
	long := strings.Repeat("9", 100000)
	for _, s := range []string{long, "-" + long, "0" + long, "-0" + long, long + "a", long + "\xff", long + "-"} {
		checkRead(t, s)
	}
	checkRead(t, "1"+strings.Repeat("0", 64))
}

// P1.2: the chapter's examples, and the edges.
func TestHead(t *testing.T) {
	for _, c := range [][3]string{
		{"", "", ""},
		{"-", "", "-"},
		{"--1", "", "--1"},
		{"-a1", "", "-a1"},
		{"+1", "", "+1"},
		{" 1", "", " 1"},
		{"ab", "", "ab"},
		{"-12ab", "-12", "ab"},
		{"12-3", "12", "-3"},
		{"-1-2", "-1", "-2"},
		{"-0", "-0", ""},
		{"007", "007", ""},
		{"-007x", "-007", "x"},
		{"1٣", "1", "٣"},
		{"٣1", "", "٣1"},
		{"1\xff2", "1", "\xff2"},
		{"-\xff", "", "-\xff"},
		{"99999999999999999999 1", "99999999999999999999", " 1"},
	} {
		if head, rest := digit.Head(c[0]); head != c[1] || rest != c[2] {
			t.Errorf("Head(%q) is %q, %q; not %q, %q", c[0], head, rest, c[1], c[2])
		}
	}
}

// P1.2, P1.4: the head is all that begins s so, and both together are s.
func TestHeadAll(t *testing.T) {
	for _, s := range odd() {
		head, rest := digit.Head(s)
		if head+rest != s || head != asHead.FindString(s) {
			t.Errorf("Head(%q) is %q, %q", s, head, rest)
		}
	}
}

// fitting tells n, and true, if it fits; else 0, false.
func fitting(n *big.Int) (int64, bool) {
	if !n.IsInt64() {
		return 0, false
	}
	return n.Int64(), true
}

func checkPair(t *testing.T, a, b int64) {
	t.Helper()
	want, fits := fitting(new(big.Int).Add(big.NewInt(a), big.NewInt(b)))
	if n, ok := digit.Add(a, b); n != want || ok != fits {
		t.Errorf("Add(%d, %d) is %d, %v", a, b, n, ok)
	}
	want, fits = fitting(new(big.Int).Mul(big.NewInt(a), big.NewInt(b)))
	if n, ok := digit.Mul(a, b); n != want || ok != fits {
		t.Errorf("Mul(%d, %d) is %d, %v", a, b, n, ok)
	}
}

// P1.3: at the edges, each with each, both ways round.
func TestAddMul(t *testing.T) {
	for _, a := range edges {
		for _, b := range edges {
			checkPair(t, a, b)
		}
	}
}

// P1.3: of many sizes.
func TestAddMulMany(t *testing.T) {
	r := rand.New(rand.NewSource(1))
	some := func() int64 { return int64(r.Uint64()) >> r.Intn(64) }
	for range 100000 {
		checkPair(t, some(), some())
	}
}

func wantSum(l []int64) (int64, api.Errno) {
	sum := new(big.Int)
	for _, n := range l {
		sum.Add(sum, big.NewInt(n))
	}
	n, fits := fitting(sum)
	if !fits {
		return 0, api.ErrRange
	}
	return n, api.OK
}

func checkSum(t *testing.T, l ...int64) {
	t.Helper()
	want, wantErr := wantSum(l)
	if n, err := digit.Sum(l...); n != want || err != wantErr {
		t.Errorf("Sum(%d) is %d, %d; not %d, %d", l, n, err, want, wantErr)
	}
}

// P1.3: sums whose first ones do not fit, and sums that do not.
func TestSum(t *testing.T) {
	if n, err := digit.Sum(); n != 0 || err != api.OK {
		t.Errorf("Sum of none is %d, %d", n, err)
	}
	if n, err := digit.Sum(math.MaxInt64, 1); n != 0 || err != api.ErrRange {
		t.Errorf("Sum that does not fit is %d, %d", n, err)
	}
	const most, least = math.MaxInt64, math.MinInt64
	checkSum(t, 5)
	checkSum(t, least)
	checkSum(t, most, 1, -1)
	checkSum(t, least, -1)
	checkSum(t, least, -1, 1)
	checkSum(t, most, most, most, least, least, least, 3)
	checkSum(t, least, least)
	checkSum(t, least, least, most, most, 2)
	checkSum(t, least, least, most, most, 1, most)
	checkSum(t, most, most, 2)
	checkSum(t, -1, -1, -1, 3)
}

// P1.3: of many, of all sizes, in any order.
func TestSumMany(t *testing.T) {
	r := rand.New(rand.NewSource(2))
	for range 2000 {
		l := make([]int64, r.Intn(20))
		for i := range l {
			l[i] = edges[r.Intn(len(edges))]
		}
		checkSum(t, l...)
		slices.Reverse(l)
		checkSum(t, l...)
	}
	far := slices.Repeat([]int64{math.MaxInt64}, 100000)
	checkSum(t, far...)
	for range 100000 {
		far = append(far, -math.MaxInt64)
	}
	checkSum(t, far...)
}

// P1.4: Read of Text is the number, Text of Read the text.
func TestTextAndRead(t *testing.T) {
	for _, n := range numbers() {
		if m, err := digit.Read(digit.Text(n)); m != n || err != api.OK {
			t.Errorf("Read of Text(%d) is %d, %d", n, m, err)
		}
	}
	for _, s := range odd() {
		if n, err := digit.Read(s); err == api.OK && digit.Text(n) != s {
			t.Errorf("Text of Read(%q) is %q", s, digit.Text(n))
		}
	}
}

// P1.4: both ways round it is the same; 0 and 1 are what they should be.
func TestAddMulLaws(t *testing.T) {
	for _, a := range edges {
		for _, b := range edges {
			sum, fits := digit.Add(a, b)
			if turned, ok := digit.Add(b, a); sum != turned || fits != ok {
				t.Errorf("Add(%d, %d) is not Add of them turned", a, b)
			}
			product, fits := digit.Mul(a, b)
			if turned, ok := digit.Mul(b, a); product != turned || fits != ok {
				t.Errorf("Mul(%d, %d) is not Mul of them turned", a, b)
			}
		}
		if n, ok := digit.Add(a, 0); n != a || !ok {
			t.Errorf("Add(%d, 0) is %d, %v", a, n, ok)
		}
		if n, ok := digit.Mul(a, 1); n != a || !ok {
			t.Errorf("Mul(%d, 1) is %d, %v", a, n, ok)
		}
		if n, ok := digit.Mul(a, 0); n != 0 || !ok {
			t.Errorf("Mul(%d, 0) is %d, %v", a, n, ok)
		}
	}
}

// R3: what is handed in stays as it is, the room behind its end, too.
func TestSumKeepsList(t *testing.T) {
	room := []int64{1, math.MaxInt64, 3, 4}
	for range 2 {
		if _, err := digit.Sum(room[:2:4]...); err != api.ErrRange {
			t.Errorf("Sum is told as %d", err)
		}
	}
	if !slices.Equal(room, []int64{1, math.MaxInt64, 3, 4}) {
		t.Errorf("the list is %d now", room)
	}
}

// The chapter's errors.
func TestErrors(t *testing.T) {
	if api.OK != 0 || api.ErrDigit != 110 || api.ErrRange != 111 {
		t.Errorf("the errors are %d, %d, %d", api.OK, api.ErrDigit, api.ErrRange)
	}
}
