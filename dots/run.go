package dots

import (
	"cmp"
	"sort"

	"deaddrop/api"
)

// single is the run of d alone.
func single(d api.Dot) api.Run {
	return api.Run{Dev: d.Dev, From: d.N, To: d.N}
}

// stands tells whether r may stand in a set, whatever is around it.
func stands(r api.Run) bool {
	return 0 <= r.Dev && r.Dev < api.MaxDevs && 1 <= r.From && r.From <= r.To && r.To <= api.MaxDot
}

// byBegin is the order of where runs begin.
func byBegin(a, b api.Run) int {
	return cmp.Or(cmp.Compare(a.Dev, b.Dev), cmp.Compare(a.From, b.From))
}

// ahead tells whether a ends ahead of where b begins.
func ahead(a, b api.Run) bool {
	return a.Dev < b.Dev || a.Dev == b.Dev && a.To < b.From
}

// apart tells whether a ends ahead of where b begins, and they do not touch.
func apart(a, b api.Run) bool {
	return a.Dev < b.Dev || a.Dev == b.Dev && b.From-a.To > 1
}

// covers tells whether l has all of r. No two runs of a set touch: one of them
// has all of r, or some of it is missing.
func covers(l []api.Run, r api.Run) bool {
	i := sort.Search(len(l), func(i int) bool { return !ahead(l[i], r) })
	return i < len(l) && l[i].Dev == r.Dev && l[i].From <= r.From && r.To <= l[i].To
}

// joined is l with r, which begins nowhere ahead of l's last run. It writes
// into l: that is to be no list of who calls from outside.
func joined(l []api.Run, r api.Run) []api.Run {
	if len(l) == 0 {
		return append(l, r)
	}
	switch last := &l[len(l)-1]; {
	case apart(*last, r):
		l = append(l, r)
	case r.From-last.To == 1:
		// They touch: no dot is in both, but a set has them as one run, too.
		fallthrough
	default:
		last.To = max(last.To, r.To)
	}
	return l
}
