package job

import (
	"math"
	"strconv"
	"strings"
	"testing"

	"outrider/api"
)

func config() api.Config {
	return api.Config{Workers: 2, Window: 4, Policy: api.Dynamic, Chunk: 1, Reads: 8, Writes: 9, Outs: 10, Arena: 32, Edges: 33, Retry: 5}
}

const configWords = "dynamic workers 2 window 4 chunk 1 reads 8 writes 9 outs 10 arena 32 edges 33 retry 5"

// field: a number of a config: where it is, its word, what it may be, and the error of what it may not be.
type field struct {
	of          func(*api.Config) *int
	word        string
	least, most int
	no          api.Errno
}

// fields: in the order in which Right goes through them, with the policy behind the first one.
func fields() []field {
	return []field{
		{func(c *api.Config) *int { return &c.Workers }, "workers", 1, 8, api.ErrWorkers},
		{func(c *api.Config) *int { return &c.Chunk }, "chunk", 1, 200, api.ErrSize},
		{func(c *api.Config) *int { return &c.Window }, "window", 1, 32, api.ErrConfig},
		{func(c *api.Config) *int { return &c.Reads }, "reads", 1, 64, api.ErrConfig},
		{func(c *api.Config) *int { return &c.Writes }, "writes", 1, 64, api.ErrConfig},
		{func(c *api.Config) *int { return &c.Outs }, "outs", 1, 64, api.ErrConfig},
		{func(c *api.Config) *int { return &c.Arena }, "arena", 1, 512, api.ErrConfig},
		{func(c *api.Config) *int { return &c.Edges }, "edges", 1, 512, api.ErrConfig},
		{func(c *api.Config) *int { return &c.Retry }, "retry", 0, 9, api.ErrConfig},
	}
}

// right: what Right answers; ConfigText answers that error, or a text that is parsed as the config.
func right(t *testing.T, c api.Config) api.Errno {
	t.Helper()
	e := Right(c)
	s, no := ConfigText(c)
	if no != e || (e != api.OK) != (s == "") {
		t.Fatalf("%v: %d, but %q %d", c, e, s, no)
	}
	if e == api.OK {
		if again, no := ParseConfig(s); again != c || no != api.OK {
			t.Fatalf("%q: %v %d", s, again, no)
		}
	}
	return e
}

// P17.2: each number one below its least, its least, its greatest and one above it, and far ones
func TestRight(t *testing.T) {
	for _, f := range fields() {
		for _, n := range []int{f.least, f.least + 1, f.most - 1, f.most} {
			c := config()
			*f.of(&c) = n
			if e := right(t, c); e != api.OK {
				t.Error(f.word, n, e)
			}
		}
		for _, n := range []int{f.least - 1, f.most + 1, -2, 1000, math.MinInt, math.MaxInt, math.MaxInt32 + 1, 1<<32 + f.least, -1<<32 + f.least} {
			c := config()
			*f.of(&c) = n
			if e := right(t, c); e != f.no {
				t.Error(f.word, n, e)
			}
		}
	}
	for _, p := range []api.Policy{0, 4, -1, math.MinInt, math.MaxInt, 1<<32 + 1} {
		c := config()
		c.Policy = p
		if e := right(t, c); e != api.ErrPolicy {
			t.Error(p, e)
		}
	}
	if e := right(t, api.Config{}); e != api.ErrWorkers {
		t.Error(e)
	}
	least := api.Config{Workers: 1, Window: 1, Policy: api.Static, Chunk: 1, Reads: 1, Writes: 1, Outs: 1, Arena: 1, Edges: 1}
	most := api.Config{Workers: 8, Window: 32, Policy: api.Guided, Chunk: 200, Reads: 64, Writes: 64, Outs: 64, Arena: 512, Edges: 512, Retry: 9, Force: true}
	if right(t, least) != api.OK || right(t, most) != api.OK {
		t.Error("the least or the greatest of all")
	}
}

// P17.2: which of two errors is told first
func TestWhichConfigErrorIsFirst(t *testing.T) {
	for i, first := range fields() {
		for _, later := range fields()[i+1:] {
			for _, a := range []int{first.least - 1, first.most + 1} {
				for _, b := range []int{later.least - 1, later.most + 1} {
					c := config()
					*first.of(&c), *later.of(&c) = a, b
					if e := right(t, c); e != first.no {
						t.Error(first.word, later.word, e)
					}
				}
			}
		}
		c := config()
		c.Policy = 0
		*first.of(&c) = first.most + 1
		want := api.ErrPolicy
		if i == 0 {
			want = api.ErrWorkers
		}
		if e := right(t, c); e != want {
			t.Error(first.word, "and the policy", e)
		}
	}
}

// P17.6: the text of a config
func TestConfigText(t *testing.T) {
	for policy, word := range map[api.Policy]string{api.Static: "static", api.Dynamic: "dynamic", api.Guided: "guided"} {
		for _, force := range []bool{false, true} {
			c := config()
			c.Policy, c.Force = policy, force
			want := strings.Replace(configWords, "dynamic", word, 1)
			if force {
				want += " force"
			}
			if s, e := ConfigText(c); s != want || e != api.OK {
				t.Errorf("%q %d", s, e)
			}
		}
	}
}

// configIs: what ParseConfig answers; beside an error nothing.
func configIs(t *testing.T, s string, want api.Config, no api.Errno) {
	t.Helper()
	if no != api.OK {
		want = api.Config{}
	}
	if c, e := ParseConfig(s); c != want || e != no {
		t.Errorf("%q: %v %d, not %v %d", s, c, e, want, no)
	}
}

// P17.6: the chapter's example, with force and without, and each kind of blank
func TestParseConfig(t *testing.T) {
	s := "dynamic workers 2 window 4 chunk 1 reads 8 writes 8 outs 8 arena 32 edges 32 retry 2"
	want := api.Config{Workers: 2, Window: 4, Policy: api.Dynamic, Chunk: 1, Reads: 8, Writes: 8, Outs: 8, Arena: 32, Edges: 32, Retry: 2}
	configIs(t, s, want, api.OK)
	want.Force = true
	configIs(t, s+" force", want, api.OK)
	want = config()
	for _, blank := range []string{" ", "\t", "\r", "\n", "  ", "\r\n", " \t\n\r "} {
		spaced := strings.ReplaceAll(configWords, " ", blank)
		for _, s := range []string{spaced, blank + spaced, spaced + blank, blank + spaced + blank} {
			configIs(t, s, want, api.OK)
		}
		forced := want
		forced.Force = true
		configIs(t, spaced+blank+"force", forced, api.OK)
		configIs(t, spaced+blank+"force"+blank, forced, api.OK)
	}
	for _, other := range []string{"", "_", "\v", "\f", "\x00", "\u00a0", "\u2003", "\xff", "\u0085", "#", ",", "="} {
		configIs(t, strings.ReplaceAll(configWords, " ", other), want, api.ErrForm)
		configIs(t, strings.Replace(configWords, "workers 2", "workers"+other+"2", 1), want, api.ErrForm)
		if other != "" {
			configIs(t, configWords+other, want, api.ErrForm)
			configIs(t, configWords+" "+other, want, api.ErrForm)
		}
	}
	for _, s := range []string{"", " ", "\n", "dynamic", "force", "#", configWords + " # a remark", "# a remark\n" + configWords} {
		configIs(t, s, want, api.ErrForm)
	}
}

func isNumber(s string) bool {
	_, err := strconv.Atoi(s)
	return err == nil
}

// P17.6: pieces that are missing, doubled, in another order, or other ones
func TestConfigPieces(t *testing.T) {
	all := strings.Fields(configWords + " force")
	text := func(parts ...[]string) string {
		var l []string
		for _, part := range parts {
			l = append(l, part...)
		}
		return strings.Join(l, " ")
	}
	for i := range all {
		if i < len(all)-1 { // without the last one it is a config without force
			configIs(t, text(all[:i]), config(), api.ErrForm)
			configIs(t, text(all[:i], all[i+1:]), config(), api.ErrForm)
		}
		configIs(t, text(all[:i+1], all[i:]), config(), api.ErrForm)
		for k := i + 1; k < len(all); k++ {
			if isNumber(all[i]) && isNumber(all[k]) {
				continue
			}
			swapped := strings.Fields(configWords + " force")
			swapped[i], swapped[k] = swapped[k], swapped[i]
			configIs(t, text(swapped), config(), api.ErrForm)
		}
		for _, other := range []string{"x", "Static", "FORCE", all[i] + "x", all[i][1:] + "_", strings.ToUpper(all[i]) + ":"} {
			configIs(t, text(all[:i], []string{other}, all[i+1:]), config(), api.ErrForm)
			configIs(t, text(all[:i], []string{other}, all[i:]), config(), api.ErrForm)
		}
	}
	// whole pairs, too
	for i := 1; i < 19; i += 2 {
		configIs(t, text(all[:i], all[i+2:]), config(), api.ErrForm)
		configIs(t, text(all[:i+2], all[i:]), config(), api.ErrForm)
		for k := i + 2; k < 19; k += 2 {
			configIs(t, text(all[:i], all[k:k+2], all[i+2:k], all[i:i+2], all[k+2:]), config(), api.ErrForm)
		}
	}
	configIs(t, text(all[1:], all[:1]), config(), api.ErrForm)
	configIs(t, configWords+" force force", config(), api.ErrForm)
}

// P17.6: numbers as layer 1 writes them, and those that count as -1
func TestConfigNumbers(t *testing.T) {
	for _, f := range fields() {
		was := config()
		at := f.word + " " + strconv.Itoa(*f.of(&was))
		with := func(n string) string { return strings.Replace(configWords, at, f.word+" "+n, 1) }
		for n := f.least; n <= f.most; n++ {
			c := config()
			*f.of(&c) = n
			configIs(t, with(strconv.Itoa(n)), c, api.OK)
		}
		for _, n := range []string{strconv.Itoa(f.least - 1), strconv.Itoa(f.most + 1), "-1", "-2", "2147483647", "2147483648", "2147483649", "4294967297", "4294967298", "-4294967295", "9223372036854775807", "-9223372036854775808"} {
			configIs(t, with(n), config(), f.no)
		}
		for _, n := range []string{"01", "00", "-0", "+1", "--1", "1.", "1x", "x", "-", "0x1", "1_0", "1e1", "9223372036854775808", "-9223372036854775809", "18446744073709551617", "100000000000000000000000000000001"} {
			configIs(t, with(n), config(), api.ErrForm)
		}
	}
}

// P17.6: which error is first: the text's length, its form, then Right's, in its own order
func TestConfigErrors(t *testing.T) {
	configIs(t, "dynamic workers 0 window 0 chunk 0 reads 0 writes 0 outs 0 arena 0 edges 0 retry 0", config(), api.ErrWorkers)
	configIs(t, "dynamic workers 1 window 0 chunk 0 reads 0 writes 0 outs 0 arena 0 edges 0 retry 0", config(), api.ErrSize)
	configIs(t, "dynamic workers 1 window 0 chunk 1 reads 0 writes 0 outs 0 arena 0 edges 0 retry 0", config(), api.ErrConfig)
	configIs(t, "dynamic workers 0 window 0 chunk 0 reads 0 writes 0 outs 0 arena 0 edges 0 retry 0 x", config(), api.ErrForm)
	configIs(t, "other workers 0 window 4 chunk 1 reads 8 writes 9 outs 10 arena 32 edges 33 retry 5", config(), api.ErrForm)
	long := configWords + strings.Repeat(" ", api.MaxText-len(configWords))
	configIs(t, long, config(), api.OK)
	configIs(t, long+" ", config(), api.ErrLong)
	configIs(t, strings.Repeat("x", api.MaxText), config(), api.ErrForm)
	configIs(t, strings.Repeat("x", api.MaxText+1), config(), api.ErrLong)
	configIs(t, strings.Repeat("x ", api.MaxText), config(), api.ErrLong)
}
