package dep

import (
	"outrider/api"
	"outrider/job"
	"outrider/plan"
)

// mostShape: how far from 0 the numbers of a loop may be that is judged.
const mostShape = 1 << 30

// Independent: is it sure that the tasks of a job have nothing to do with one another, that none is an error, and that a config has room for all of them at one time? (False says nothing.)
func Independent(j api.Job, c api.Config) (bool, api.Errno) {
	if e := job.Valid(j); e != api.OK {
		return false, e
	}
	if e := job.Right(c); e != api.OK {
		return false, e
	}
	return isLoop(j.Shape) && !c.Force && apart(j, c), api.OK
}

// isLoop: a loop whose indexes are near enough to 0 for all forms.
func isLoop(s api.Shape) bool {
	return s.Kind == api.ShapeFor && near(s.Lo, mostShape) && near(s.Hi, mostShape) && near(s.Step, mostShape)
}

// apart is of a job that may be, and is a loop: so it has one text of instructions.
func apart(j api.Job, c api.Config) bool {
	l, ok := Accesses(j.Codes[0], len(j.Reds))
	return ok && hasRoom(row(j.Codes[0]), j.Fuel, c) && allKnown(l) && allInside(l, j) && noneMeet(l, j.Shape)
}

// hasRoom: does a task have fuel and log for these instructions, and the arena slots for all tasks under way?
func hasRoom(l []api.Ins, fuel int, c api.Config) bool {
	stores := many(l, api.InsStore)
	return len(l) <= fuel && many(l, api.InsEmit) <= c.Outs && many(l, api.InsLoad) <= c.Reads &&
		stores <= c.Writes && c.Window*stores <= c.Arena
}

func many(l []api.Ins, kind api.InsKind) int {
	n := 0
	for _, x := range l {
		if x.Kind == kind {
			n++
		}
	}
	return n
}

func allKnown(l []Access) bool {
	for _, x := range l {
		if !x.To.Known {
			return false
		}
	}
	return true
}

// allInside looks at the first and the last index alone: what lies between goes straight from one to the other.
func allInside(l []Access, j api.Job) bool {
	n, _ := plan.Count(j.Shape)
	if n == 0 {
		return true
	}
	first, last := j.Shape.Lo, j.Shape.Lo+int64(n-1)*j.Shape.Step
	for _, x := range l {
		if !inside(at(x.To, first), j.Words) || !inside(at(x.To, last), j.Words) {
			return false
		}
	}
	return true
}

func inside(address int64, words int) bool {
	return address >= 0 && address < int64(words)
}

// noneMeet: an access stands beside itself, too, since a store may meet that of another index.
func noneMeet(l []Access, s api.Shape) bool {
	for i, x := range l {
		for _, y := range l[i:] {
			if (x.Store || y.Store) && accessesMeet(x.To, y.To, s) {
				return false
			}
		}
	}
	return true
}

// accessesMeet takes Lo for the first index, also where the loop has no task: then Meet alone says what follows.
func accessesMeet(f, g Form, s api.Shape) bool {
	n, _ := plan.Count(s)
	return Meet(at(f, s.Lo), f.A*s.Step, at(g, s.Lo), g.A*s.Step, n)
}
