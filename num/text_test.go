package num

import (
	"strconv"
	"strings"
	"testing"

	"outrider/api"
)

// P1.2
func TestTextIsParsed(t *testing.T) {
	l := edges()
	for n := int64(1); n < greatest/10; n *= 10 {
		l = append(l, n, n-1, -n, 1-n)
	}
	for _, n := range l {
		s := Text(n)
		if s != strconv.FormatInt(n, 10) {
			t.Errorf("Text(%d) = %q", n, s)
		}
		if m, e := Parse(s); m != n || e != api.OK {
			t.Errorf("Parse(%q) = %d, %d", s, m, e)
		}
	}
}

// P1.2
func TestParseWantsDigits(t *testing.T) {
	for _, s := range []string{
		"", "-", "--1", "-0", "-00", "00", "007", "-01", "+1", "+", " 1", "1 ", "1-", "1.0", "0x1", "1_0", "1e3", "a", "1a", "a1", "12/", "12:", "-/", "-:", "1\n", "\x00", "1\x00", "\xff", "٣", "１",
		"099999999999999999999", "99999999999999999999x", "-99999999999999999999-", strings.Repeat("0", 30), strings.Repeat("9", 100) + " ",
	} {
		if n, e := Parse(s); n != 0 || e != api.ErrDigits {
			t.Errorf("Parse(%q) = %d, %d", s, n, e)
		}
	}
}

// P1.2
func TestParseRange(t *testing.T) {
	for _, s := range []string{
		"9223372036854775808", "-9223372036854775809", "9999999999999999999", "-9999999999999999999", "10000000000000000000", "18446744073709551615", "18446744073709551616", "18446744073709551617", "-18446744073709551617",
		strings.Repeat("9", 400), "-" + strings.Repeat("9", 400), "1" + strings.Repeat("0", 64),
	} {
		if n, e := Parse(s); n != 0 || e != api.ErrRange {
			t.Errorf("Parse(%q) = %d, %d", s, n, e)
		}
	}
	for _, c := range []struct {
		s string
		n int64
	}{{"9223372036854775807", greatest}, {"-9223372036854775808", least}, {"-9223372036854775807", least + 1}, {"0", 0}, {"-1", -1}, {"10", 10}, {"1000000000000000000", 1e18}} {
		if n, e := Parse(c.s); n != c.n || e != api.OK {
			t.Errorf("Parse(%q) = %d, %d", c.s, n, e)
		}
	}
}

// P1.2: of all short texts, just those are read that Text writes.
func TestParseOfShortTexts(t *testing.T) {
	for first := range 256 {
		for second := range 257 {
			s := string([]byte{byte(first)})
			if second < 256 {
				s = string([]byte{byte(first), byte(second)})
			}
			want, err := strconv.ParseInt(s, 10, 64)
			wrong := api.OK
			if err != nil || strconv.FormatInt(want, 10) != s {
				want, wrong = 0, api.ErrDigits
			}
			if n, e := Parse(s); n != want || e != wrong {
				t.Errorf("Parse(%q) = %d, %d; want %d, %d", s, n, e, want, wrong)
			}
		}
	}
}
