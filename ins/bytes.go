package ins

import (
	"math"

	"outrider/api"
	"outrider/pack"
)

// Encode: the bytes of a text of instructions that may be.
func Encode(l []api.Ins, cells int) ([]byte, api.Errno) {
	if _, e := Check(l, cells); e != api.OK {
		return nil, e
	}
	w := pack.New()
	w.Uint(uint64(len(l)))
	for _, x := range l {
		lay(w, x)
	}
	return w.Bytes(), api.OK
}

// Decode: the text of instructions whose bytes these are.
func Decode(b []byte, cells int) ([]api.Ins, api.Errno) {
	r := pack.Read(b)
	var l []api.Ins
	for range r.Count(1) {
		x, e := take(r)
		if e != api.OK {
			return nil, e
		}
		if len(l) <= api.MaxCode { // one too many is enough to be refused: the rest is only read for its faults
			l = append(l, x)
		}
	}
	if e := r.End(); e != api.OK {
		return nil, e
	}
	if _, e := Check(l, cells); e != api.OK {
		return nil, e
	}
	return l, api.OK
}

func lay(w *pack.Writer, x api.Ins) {
	w.Uint(uint64(x.Kind))
	parts, _ := partsOf(x.Kind)
	for _, part := range parts {
		switch part {
		case opPart:
			w.Uint(uint64(x.Op))
		case numberPart, targetPart:
			w.Int(x.K)
		default:
			w.Uint(uint64(*intOf(&x, part)))
		}
	}
}

func take(r *pack.Reader) (api.Ins, api.Errno) {
	x := api.Ins{Kind: api.InsKind(small(r.Uint()))}
	if r.Fail() != api.OK {
		return api.Ins{}, r.Fail()
	}
	parts, is := partsOf(x.Kind)
	if !is {
		return api.Ins{}, api.ErrForm
	}
	for _, part := range parts {
		switch part {
		case opPart:
			x.Op = api.Op(small(r.Uint()))
		case numberPart, targetPart:
			x.K = r.Int()
		default:
			*intOf(&x, part) = small(r.Uint())
		}
	}
	return x, r.Fail()
}

// small: a number that is too great for every part stays too great, and doesn't go round to one that fits.
func small(n uint64) int {
	return int(min(n, math.MaxInt32))
}
