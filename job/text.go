package job

import (
	"strings"

	"outrider/api"
	"outrider/asm"
	"outrider/num"
)

// Text: the text of a job that may be; its instructions as listings.
func Text(j api.Job) (string, api.Errno) {
	if e := Valid(j); e != api.OK {
		return "", e
	}
	var b strings.Builder
	line := func(said ...string) { b.WriteString(strings.Join(said, blank) + lineEnd) }
	line(wordsLine, count(j.Words))
	for _, c := range j.Cells {
		line(cellLine, count(c.At), num.Text(c.Value))
	}
	for _, r := range j.Reds {
		line(redLine, operations()[r.Op-api.RedSum], num.Text(r.Init))
	}
	line(fuelLine, count(j.Fuel))
	line(shaped(j.Shape)...)
	for _, code := range j.Codes {
		listing, e := asm.Text(code, len(j.Reds))
		if e != api.OK {
			return "", e
		}
		line(codeLine, opening)
		b.WriteString(listing)
		line(closing)
	}
	if b.Len() > api.MaxText {
		return "", api.ErrLong
	}
	return b.String(), api.OK
}

func shaped(s api.Shape) []string {
	if s.Kind == api.ShapePipe {
		return []string{pipeLine, count(s.Items), count(s.Stages)}
	}
	return []string{forLine, num.Text(s.Lo), num.Text(s.Hi), num.Text(s.Step)}
}

func count(n int) string {
	return num.Text(int64(n))
}
