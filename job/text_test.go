package job

import (
	"math"
	"strings"
	"testing"

	"outrider/api"
	"outrider/asm"
)

// written: what Text answers; it leaves what it is handed. What is written is parsed as it was (P17.7).
func written(t *testing.T, j api.Job) (string, api.Errno) {
	t.Helper()
	was := deep(j)
	s, e := Text(j)
	if !alike(j, was) {
		t.Fatal("what was handed in is changed")
	}
	if e != api.OK {
		if s != "" {
			t.Fatalf("%q beside the error %d", s, e)
		}
		return s, e
	}
	if again, line, no := Parse(s); no != api.OK || line != 0 || !Same(again, j) || !alike(again, j) {
		t.Fatalf("%q: %v %d %d", s, again, line, no)
	}
	return s, e
}

func writes(t *testing.T, j api.Job, want string) {
	t.Helper()
	if s, e := written(t, j); s != want || e != api.OK {
		t.Errorf("%q %d, not %q", s, e, want)
	}
}

// P17.4: all kinds of lines, with numbers at their ends
func TestText(t *testing.T) {
	writes(t, loop(), "words 4\ncell 1 -2\ncell 3 0\nred max 7\nred sum -1\nfuel 50\nfor -1 6 3\ncode {\nl0:\nmul r11 r1 r2\ninto r11 1\nconst r3 -9\nother r3 l0\nhalt\n}\n")
	writes(t, pipe(), "words 4\ncell 1 -2\ncell 3 0\nred max 7\nred sum -1\nfuel 50\npipe 5 3\ncode {\nl0:\nmul r11 r1 r2\ninto r11 1\nconst r3 -9\nother r3 l0\nhalt\n}\ncode {\nhalt\n}\ncode {\nemit r2\nfail r1\n}\n")
	writes(t, api.Job{Words: 64, Cells: []api.Cell{{At: 63, Value: math.MinInt64}, {At: 0, Value: math.MaxInt64}}, Fuel: 4000, Shape: api.Shape{Kind: api.ShapeFor, Lo: math.MaxInt64, Hi: math.MinInt64, Step: math.MinInt64}, Codes: [][]api.Ins{halts()}},
		"words 64\ncell 63 -9223372036854775808\ncell 0 9223372036854775807\nfuel 4000\nfor 9223372036854775807 -9223372036854775808 -9223372036854775808\ncode {\nhalt\n}\n")
}

// P17.4: no cells and no reductions, one of each kind of reduction, one task and several stages
func TestTextOfParts(t *testing.T) {
	least := api.Job{Words: 1, Fuel: 1, Shape: api.Shape{Kind: api.ShapeFor, Step: 1}, Codes: [][]api.Ins{halts()}}
	writes(t, least, "words 1\nfuel 1\nfor 0 0 1\ncode {\nhalt\n}\n")
	least.Cells, least.Reds = []api.Cell{}, []api.Red{}
	writes(t, least, "words 1\nfuel 1\nfor 0 0 1\ncode {\nhalt\n}\n")
	for op, word := range map[api.RedOp]string{api.RedSum: "sum", api.RedProd: "prod", api.RedMin: "min", api.RedMax: "max", api.RedAnd: "and", api.RedOr: "or", api.RedXor: "xor"} {
		j := deep(least)
		j.Shape.Hi = 1
		j.Reds = []api.Red{{Op: op, Init: int64(op) - 4}}
		writes(t, j, "words 1\nred "+word+" "+[]string{"-3", "-2", "-1", "0", "1", "2", "3"}[op-1]+"\nfuel 1\nfor 0 1 1\ncode {\nhalt\n}\n")
	}
	for stages := 1; stages <= 6; stages++ {
		j := deep(least)
		j.Shape = api.Shape{Kind: api.ShapePipe, Items: 7, Stages: stages}
		j.Codes = nil
		for range stages {
			j.Codes = append(j.Codes, halts())
		}
		writes(t, j, "words 1\nfuel 1\npipe 7 "+string(rune('0'+stages))+"\n"+strings.Repeat("code {\nhalt\n}\n", stages))
	}
}

// sized: a job of so many stages, whose text has so many bytes.
func sized(t *testing.T, stages, bytes int) api.Job {
	t.Helper()
	j := api.Job{Words: 1, Fuel: 1, Shape: api.Shape{Kind: api.ShapePipe, Stages: stages}}
	for range stages {
		code := []api.Ins{}
		for range 400 / stages {
			code = append(code, api.Ins{Kind: api.InsConst, A: 3, K: 1})
		}
		j.Codes = append(j.Codes, append(code, halts()...))
	}
	long := len("words 1\nfuel 1\npipe 0 1\n") + stages*(400/stages*len("const r3 1\n")+len("code {\nhalt\n}\n"))
	for i := 0; long < bytes; i++ {
		code := j.Codes[i%stages]
		x := &code[i/stages%(len(code)-1)]
		if x.K < math.MaxInt64/10 {
			x.K *= 10
			long++
		}
	}
	if long != bytes {
		t.Fatal("no such job")
	}
	return j
}

// P17.4: a text of just MaxText bytes, and one more
func TestTextIsTooLong(t *testing.T) {
	for _, stages := range []int{1, 2, 5} {
		s, e := written(t, sized(t, stages, api.MaxText))
		if len(s) != api.MaxText || e != api.OK {
			t.Error(stages, len(s), e)
		}
		if s, e := written(t, sized(t, stages, api.MaxText-1)); len(s) != api.MaxText-1 || e != api.OK {
			t.Error(stages, len(s), e)
		}
		for _, more := range []int{1, 2, 500} {
			if s, e := written(t, sized(t, stages, api.MaxText+more)); s != "" || e != api.ErrLong {
				t.Error(stages, more, len(s), e)
			}
		}
	}
	// one listing of just MaxText bytes is too long with what stands around it, and one that is too long itself
	for _, more := range []int{0, 1} {
		j := sized(t, 1, api.MaxText+len("words 1\nfuel 1\npipe 0 1\ncode {\n}\n")+more)
		if _, e := asm.Text(j.Codes[0], 0); (e == api.ErrLong) != (more == 1) {
			t.Fatal(e)
		}
		if s, e := written(t, j); s != "" || e != api.ErrLong {
			t.Error(more, len(s), e)
		}
	}
	// Valid's error is ahead of it
	j := sized(t, 1, api.MaxText+9)
	j.Codes[0][0].B = 1
	if _, e := Text(j); e != api.ErrUnused {
		t.Error(e)
	}
}

// P17.4: with a job that may not be, Valid's error
func TestTextOfWrongJobs(t *testing.T) {
	for i, f := range flaws() {
		j := deep(pipe())
		f.make(&j)
		if s, e := written(t, j); s != "" || e != f.no {
			t.Errorf("flaw %d: %q %d", i, s, e)
		}
	}
	if s, e := written(t, api.Job{}); s != "" || e != api.ErrWords {
		t.Error(s, e)
	}
}
