package name

import (
	"outrider/api"
)

// walker goes through the names of statements. It counts on nothing: statements that aren't right are gone through all the same.
type walker struct {
	there map[string]int // the names that are there, and their registers
	cells int            // how many reductions there are
	slots []int          // the registers of the names gone through
	most  int            // declared names that were there at one time
}

func newWalker(cells int) *walker {
	return &walker{
		there: map[string]int{"n": 0, "i": 1, "k": 2},
		cells: min(cells, api.MaxReds),
	}
}

// block: those of its statements; behind it the names that they declared aren't there any more.
func (w *walker) block(l []api.Stmt) api.Errno {
	var declared []string
	for _, s := range l {
		if e := w.stmt(s); e != api.OK {
			return e
		}
		if s.Kind == api.StmtVar {
			declared = append(declared, s.Name)
		}
	}
	for _, name := range declared {
		delete(w.there, name)
	}
	return api.OK
}

func (w *walker) stmt(s api.Stmt) api.Errno {
	if e := w.exprs(s.Args); e != api.OK {
		return e
	}
	if e := w.own(s); e != api.OK {
		return e
	}
	if e := w.block(s.Body); e != api.OK {
		return e
	}
	return w.block(s.Else)
}

func (w *walker) exprs(l []api.Expr) api.Errno {
	for _, x := range l {
		if e := w.expr(x); e != api.OK {
			return e
		}
	}
	return api.OK
}

func (w *walker) expr(x api.Expr) api.Errno {
	if x.Kind == api.ExprName {
		return w.use(x.Name)
	}
	return w.exprs(x.Args)
}

// own: what a statement itself names, beside its parts.
func (w *walker) own(s api.Stmt) api.Errno {
	switch s.Kind {
	case api.StmtVar:
		return w.declare(s.Name)
	case api.StmtSet:
		return w.use(s.Name)
	case api.StmtInto:
		return w.into(s.Cell)
	}
	return api.OK
}

func (w *walker) use(name string) api.Errno {
	slot, is := w.there[name]
	if !is {
		return api.ErrUnknown
	}
	w.slots = append(w.slots, slot)
	return api.OK
}

// declare: since the names that go first are those that came last, the declared ones have the registers from FirstVar on without a gap, and the next one is the least that none of them has.
func (w *walker) declare(name string) api.Errno {
	if _, is := w.there[name]; is {
		return api.ErrTwice
	}
	declared := len(w.there) - api.FirstVar // those ahead of FirstVar are always there
	if declared >= api.MaxVars {
		return api.ErrVars
	}
	w.there[name] = api.FirstVar + declared
	w.most = max(w.most, declared+1)
	return w.use(name)
}

func (w *walker) into(cell int) api.Errno {
	if cell >= w.cells {
		return api.ErrCell
	}
	return api.OK
}
