package rat_test

import (
	"math/big"
	"strconv"
	"strings"
	"testing"

	"census/nat"
	"census/rat"
)

func TestText(t *testing.T) { // P2.2, P2.8
	for _, b := range samples() {
		s := b.RatString()
		if a := build(b); a.Text() != s {
			t.Error(brief(b), a.Text())
		}
		if a, ok := rat.Read(s); !ok || !same(a, b) {
			t.Error(brief(b), a.Text(), ok)
		}
	}
}

// isText reports whether s, which is short, is the text of a number.
func isText(s string) bool {
	first, second, divided := strings.Cut(s, "/")
	if !divided {
		second = "1"
	}
	n, e := strconv.Atoi(first)
	d, f := strconv.Atoi(second)
	return e == nil && f == nil && n >= 0 && d > 0 && big.NewRat(int64(n), int64(d)).RatString() == s
}

// TestShortTexts has all texts of up to six bytes of a few.
func TestShortTexts(t *testing.T) { // P2.2
	l := []string{""}
	for i := 0; i < len(l); i++ {
		s := l[i]
		a, ok := rat.Read(s)
		if ok != isText(s) || ok && a.Text() != s || !ok && !isZero(a) {
			t.Error(s, a.Text(), ok)
		}
		for _, c := range "01236/-" {
			if len(s) < 6 {
				l = append(l, s+string(c))
			}
		}
	}
}

func TestReadRefuses(t *testing.T) { // P2.2
	l := []string{
		"", "6/4", "3/1", "0/2", "03", "1/0", "+1", "0/1", "0/0", "1/1", "2/2", "12/1", "/", "1/", "/2", "//", "1//2", "1/2/3",
		"1/2/", "/1/2", "1/02", "01/2", "00", "00/1", "-1", "-1/2", "1/-2", "+1/2", "1/+2", " 1/2", "1/2 ", "1 /2", "1/ 2",
		"1/2\n", "1/2\x00", "1\x00/2", "1\\2", "1:2", "1÷2", "1∕2", "1⁄2", "½", "0.5", "1.0", "1e2", "1/2e2", "0x1/2", "1/0x2",
		"1_0/3", "1/1_0", "a", "1/a", "a/2", "１/2", "1/２", "\xff/2", "1/\xff", "inf", "NaN", "1/inf",
		"36893488147419103232/2", "36893488147419103230/4", "18446744073709551616/18446744073709551616",
		"18446744073709551616/1", "18446744073709551616/0", "0/18446744073709551616",
	}
	for _, s := range l {
		if a, ok := rat.Read(s); ok || !isZero(a) {
			t.Errorf("%q: %s", s, a.Text())
		}
	}
	for c := range 256 {
		digit := '0' <= c && c <= '9'
		for _, s := range []string{"1" + string([]byte{byte(c)}) + "7", "1/1" + string([]byte{byte(c)}) + "7"} {
			if _, ok := rat.Read(s); ok != (digit || c == '/' && len(s) == 3) {
				t.Errorf("%q: %t", s, ok)
			}
		}
	}
}

func TestReadLength(t *testing.T) { // P2.2
	// Nines and a power of ten have no common divisor.
	nines, ten := strings.Repeat("9", 2000), "1"+strings.Repeat("0", 1999)
	for _, s := range []string{nines, ten, nines + "/" + ten, ten + "/" + nines, "1/" + nines, nines + "/2", "0"} {
		if a, ok := rat.Read(s); !ok || a.Text() != s {
			t.Errorf("%.10s %d: %t", s, len(s), ok)
		}
	}
	refused := []string{
		nines + "9", nines + "9/2", nines + "9/" + ten, nines + "/" + ten + "0", "2/" + nines + "9", nines + "/" + nines,
		ten + "/2", "2/" + ten, nines + "/0", nines + "/1", "0/" + nines, "0" + nines, "1/0" + nines[1:], nines + "/",
		"/" + nines, strings.Repeat("1/", 100000), strings.Repeat("0", 100000), "1/" + strings.Repeat("0", 100000),
		strings.Repeat("3", 100000) + "/7",
	}
	for _, s := range refused {
		if a, ok := rat.Read(s); ok || !isZero(a) {
			t.Errorf("%.10s.. %d", s, len(s))
		}
	}
}

func TestTextOfAnyLength(t *testing.T) { // P2.2, P2.8
	long, twos := whole(power(3, 9000)), power(2, 9000).String()
	a, _ := rat.New(long, nat.Mul(nat.Pow2(4096), nat.Mul(nat.Pow2(4096), nat.Pow2(808))))
	if s := a.Text(); s != power(3, 9000).String()+"/"+twos {
		t.Error(len(s))
	}
	if b, ok := rat.Read(a.Text()); ok || !isZero(b) {
		t.Error("more than 2000 digits")
	}
	limit, _ := nat.Read(strings.Repeat("9", 2000))
	for _, d := range []uint64{1, 2, 7} {
		most, _ := rat.New(limit, nat.Of(d))
		more := rat.Add(most, of(1, d)) // 10^2000 / d
		_, ok := rat.Read(more.Text())
		if fits := len(more.Num().Text()) <= 2000; ok != fits {
			t.Error(d, ok, len(more.Num().Text()))
		}
		if b, ok := rat.Read(most.Text()); !ok || rat.Cmp(b, most) != 0 {
			t.Error(d, ok)
		}
	}
}
