package nat_test

import (
	"math/big"
	"strings"
	"testing"

	"census/nat"
)

func TestRead(t *testing.T) { // P1.2
	for _, b := range samples() {
		s := b.String()
		n, ok := nat.Read(s)
		if !ok || n.Text() != s || n.Len() != b.BitLen() {
			t.Error(brief(b), ok)
		}
	}
	for _, s := range []string{"0", "1", "9", "10", "100", "18446744073709551615", "18446744073709551616"} {
		if n, ok := nat.Read(s); !ok || n.Text() != s {
			t.Error(s, ok, n.Text())
		}
	}
}

func TestReadLength(t *testing.T) { // P1.2
	for n := 1; n <= 2000; n++ {
		nines, one := strings.Repeat("9", n), "1"+strings.Repeat("0", n-1)
		for _, s := range []string{nines, one} {
			if m, ok := nat.Read(s); !ok || m.Text() != s {
				t.Error(n, ok)
			}
		}
	}
	for _, n := range []int{2001, 2002, 4000, 100000} {
		for _, digit := range []string{"1", "9", "0"} {
			if m, ok := nat.Read(strings.Repeat(digit, n)); ok || m != nat.Of(0) {
				t.Error(n, digit)
			}
		}
	}
}

func TestReadRefuses(t *testing.T) { // P1.2
	l := []string{
		"", " ", "00", "01", "000", "0123", "-0", "-1", "+1", "+0", " 1", "1 ", "1\n", "\t1", "1\x00", "\x001",
		"12a", "a", "0x10", "0b1", "0o7", "1_000", "1,000", "1.0", "1.", ".5", "1e5", "1/2", "--1", "1-", "1+1",
		"/", ":", "1/", "1:", ":1", "１", "1２", "٣", "\xff", "1\xff", "inf", "NaN", strings.Repeat("0", 2000),
		"0" + strings.Repeat("9", 1999), strings.Repeat("9", 1999) + "x", "x" + strings.Repeat("9", 1999),
		strings.Repeat("9", 1000) + "-" + strings.Repeat("9", 999), "18446744073709551616 ", "1844674407370955161\x006",
	}
	for _, s := range l {
		if n, ok := nat.Read(s); ok || n != nat.Of(0) {
			t.Errorf("%.30q: %s", s, n.Text())
		}
	}
	for c := range 256 {
		s := string([]byte{'1', byte(c), '2'})
		if n, ok := nat.Read(s); ok != ('0' <= c && c <= '9') || !ok && n != nat.Of(0) {
			t.Errorf("%q", s)
		}
	}
}

func TestText(t *testing.T) { // P1.2
	for _, b := range samples() {
		if s := build(b).Text(); s != b.String() {
			t.Error(brief(b), s)
		}
	}
	for n := range 200 { // zeros within and at the end
		for _, d := range []int64{0, 1, 1000000007} {
			b := new(big.Int).Add(power(10, n), big.NewInt(d))
			if s := build(b).Text(); s != b.String() {
				t.Error(n, d, s)
			}
		}
	}
}

func TestTextOfAnyLength(t *testing.T) { // P1.2
	n, b := nat.Of(1<<64-1), new(big.Int).SetUint64(1<<64-1)
	for range 10 {
		n, b = nat.Mul(n, n), b.Mul(b, b)
		if n.Text() != b.String() || n.Len() != b.BitLen() {
			t.Error(n.Len())
		}
	}
	ten := nat.Of(10) // 10^2048 and more: beyond what Read takes
	for range 11 {
		ten = nat.Mul(ten, ten)
	}
	for i := range 30 {
		if s := ten.Text(); s != "1"+strings.Repeat("0", 2048+i) {
			t.Error(i, len(s))
		}
		ten = nat.Mul(ten, nat.Of(10))
	}
}

func TestTexts(t *testing.T) { // P1.8
	greatest, _ := nat.Read(strings.Repeat("9", 2000))
	longer := nat.Add(greatest, nat.Of(1))
	if s := longer.Text(); s != "1"+strings.Repeat("0", 2000) {
		t.Error(len(s))
	}
	if _, ok := nat.Read(longer.Text()); ok {
		t.Error("2001 digits")
	}
	l := samples()
	for _, b := range l {
		for _, c := range l {
			if len(b.String()) > len(c.String()) && nat.Cmp(build(b), build(c)) != 1 {
				t.Error(brief(b), brief(c))
			}
		}
	}
	for _, b := range l[1:] {
		a := build(b)
		n := a.Len()
		if n < 1 || n > 4096 || nat.Cmp(a, nat.Pow2(n-1)) < 0 || nat.Cmp(a, nat.Pow2(n)) >= 0 {
			t.Error(brief(b), n)
		}
	}
}
