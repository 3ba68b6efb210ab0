package brackets

import "environ/api"

// begun is a group whose closing bracket has not come.
type begun struct {
	pair int
	next int // what may come next
}

// walk goes through a list of symbols up to its end.
type walk struct {
	list  []api.Symbol
	open  []begun   // the outermost one first
	fault api.Fault // the first one, if marks has met it
}

// endOf returns the index of the first SymEnd of a list, or its length.
func endOf(l []api.Symbol) int {
	for i, x := range l {
		if x.Kind == api.SymEnd {
			return i
		}
	}
	return len(l)
}

// marks yields the index and the role of each symbol that is one of the brackets or stands in one by the table, up to the first fault.
func (w *walk) marks(yield func(i, role int) bool) {
	end := endOf(w.list)
	for i, x := range w.list[:end] {
		r, e := w.step(x)
		if e != api.OK {
			w.fault = api.Fault{At: x.At, Code: e}
			return
		}
		if r != other && !yield(i, r) {
			return
		}
	}
	if len(w.open) > 0 {
		w.fault.Code = api.ErrEnd
		if end < len(w.list) {
			w.fault.At = w.list[end].At
		}
	}
}

// step goes behind a symbol, and returns its role.
func (w *walk) step(x api.Symbol) (int, api.Errno) {
	r, p := role(x)
	e := api.OK
	switch r {
	case opening:
		e = w.begin(p)
	case middle:
		e = w.goOn(p, x.Text)
	case closing:
		e = w.end(p)
	}
	return r, e
}

// begin begins a group of a pair.
func (w *walk) begin(p int) api.Errno {
	if len(w.open) == api.MaxNest {
		return api.ErrLimit
	}
	w.open = append(w.open, begun{pair: p, next: pairs[p].begins})
	return api.OK
}

// goOn goes on in the innermost group behind what stands in groups of a pair.
func (w *walk) goOn(p int, text string) api.Errno {
	last := len(w.open) - 1
	if last < 0 || w.open[last].pair != p {
		return api.ErrSyntax
	}
	next, ok := pairs[p].follow(w.open[last].next, text)
	if !ok {
		return api.ErrSyntax
	}
	w.open[last].next = next
	return api.OK
}

// end ends the innermost group by the closing bracket of a pair.
func (w *walk) end(p int) api.Errno {
	last := len(w.open) - 1
	if last < 0 || w.open[last].pair != p || w.open[last].next == onlyFirst {
		return api.ErrSyntax
	}
	w.open = w.open[:last]
	return api.OK
}
