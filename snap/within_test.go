package snap

import (
	"errors"
	"slices"
	"strconv"
	"strings"
	"testing"

	"deaddrop/api"
	"deaddrop/wire"
)

// nums is a list of these numbers.
func nums(l ...int) api.Wire {
	var out []api.Wire
	for _, n := range l {
		out = append(out, wire.Num(n))
	}
	return wire.List(out...)
}

// of is the bytes of a state's wire, of these runs and these facts.
func of(runs, facts []api.Wire) string {
	return wire.Put(wire.List(wire.List(runs...), wire.List(facts...)))
}

// list are wires.
func list(l ...api.Wire) []api.Wire {
	return l
}

// place is a part and which one, or how many, it is.
type place struct {
	part string
	n    int
}

// faulty is bytes of which one thing is wrong, and where that is said to be,
// from the outermost on.
type faulty struct {
	b      string
	want   fault
	places []place
}

func faults() []faulty {
	num, text := wire.Num, wire.Text
	run, fact := nums(1, 7, 9), wire.List(num(1), num(7), text("k"), num(2), text("m"), num(0))
	twice := wire.List(num(1), num(8), text("k"), num(2), num(5), num(0))
	none := wire.Put(wire.List(wire.List(), wire.List()))
	return []faulty{
		{"", noWire, []place{{"bytes", 0}}},
		{"\x09", noWire, []place{{"bytes", 1}}},
		{none[:14], noWire, []place{{"bytes", 14}}},
		{none + "\x00", noWire, []place{{"bytes", 16}}},

		{wire.Put(num(5)), otherKind, []place{{"kind", api.WNum}}},
		{wire.Put(text("state")), otherKind, []place{{"kind", api.WText}}},
		{wire.Put(wire.List()), otherCount, []place{{"items", 0}}},
		{wire.Put(wire.List(wire.List())), otherCount, []place{{"items", 1}}},
		{wire.Put(wire.List(wire.List(), wire.List(), wire.List())), otherCount, []place{{"items", 3}}},
		{wire.Put(wire.List(num(0), wire.List())), otherKind, []place{{"item", 0}, {"kind", api.WNum}}},
		{wire.Put(wire.List(wire.List(), text(""))), otherKind, []place{{"item", 1}, {"kind", api.WText}}},

		{of(list(num(1)), nil), otherKind, []place{{"run", 0}, {"kind", api.WNum}}},
		{of(list(run, run, text("")), nil), otherKind, []place{{"run", 2}, {"kind", api.WText}}},
		{of(list(nums()), nil), otherCount, []place{{"run", 0}, {"items", 0}}},
		{of(list(run, nums(1, 2)), nil), otherCount, []place{{"run", 1}, {"items", 2}}},
		{of(list(run, nums(1, 2, 3, 4)), nil), otherCount, []place{{"run", 1}, {"items", 4}}},
		{of(list(run, wire.List(num(1), num(2), text("3"))), nil), otherKind, []place{{"run", 1}, {"item", 2}, {"kind", api.WText}}},
		{of(list(run, wire.List(nums(), num(2), num(3))), nil), otherKind, []place{{"run", 1}, {"item", 0}, {"kind", api.WList}}},
		{of(list(run, nums()), list(num(1))), otherCount, []place{{"run", 1}, {"items", 0}}},

		{of(list(run), list(num(1))), otherKind, []place{{"fact", 0}, {"kind", api.WNum}}},
		{of(list(run), list(fact, run)), otherCount, []place{{"fact", 1}, {"items", 3}}},
		{of(list(run), list(fact, nums())), otherCount, []place{{"fact", 1}, {"items", 0}}},
		{of(list(run), list(fact, twice)), otherKind, []place{{"fact", 1}, {"item", 4}, {"kind", api.WNum}}},
		{of(list(run), list(nums(1, 7, 0, 2, 0, 0))), otherKind, []place{{"fact", 0}, {"item", 2}, {"kind", api.WNum}}},
		{of(nil, list(fact, fact, twice)), otherKind, []place{{"fact", 2}, {"item", 4}, {"kind", api.WNum}}},

		{of(list(nums(1, 9, 7)), nil), noState, []place{{"facts of a state", 0}}},
		{of(list(run, run), nil), noState, []place{{"facts of a state", 0}}},
		{of(nil, list(fact)), noState, []place{{"facts of a state", 1}}},
		{of(list(run), list(fact, fact)), noState, []place{{"facts of a state", 2}}},
		{of(list(run), slices.Repeat(list(fact), api.MaxFacts+1)), noState, []place{{"facts of a state", api.MaxFacts + 1}}},
	}
}

// told tells the test whether err, which was wrapped once for each of these
// places, tells them, and the fault.
func told(t *testing.T, name string, err error, want fault, places []place) {
	t.Helper()
	var f fault
	if !errors.As(err, &f) || f != want || faultOf(err) != want {
		t.Errorf("%s: %v, not %v", name, err, want)
		return
	}
	for i, p := range places {
		var part partError
		if !errors.As(err, &part) || part.part != p.part || part.n != p.n {
			t.Errorf("%s: place %d is told as %v, not %v", name, i, part, p)
			return
		}
		for _, said := range []string{p.part, strconv.Itoa(p.n), want.Error()} {
			if !strings.Contains(err.Error(), said) {
				t.Errorf("%s: %q does not tell %q", name, err, said)
			}
		}
		err = errors.Unwrap(err)
	}
	if err != error(want) {
		t.Errorf("%s: %v at the bottom, not %v", name, err, want)
	}
}

// Ways: what is wrong with bytes is an error, wrapped by each part on the way
// up; errors.As tells it.
func TestFaults(t *testing.T) {
	for i, c := range faults() {
		name := "bytes " + strconv.Itoa(i)
		s, err := stateOf(c.b)
		told(t, name, err, c.want, c.places)
		if s.Seen != nil || s.Facts != nil {
			t.Errorf("%s: beside an error: %v", name, s)
		}
		if s, ok := Get(c.b); ok || s.Seen != nil || s.Facts != nil {
			t.Errorf("13.1: Get of %s: %v, %v, beside %v", name, s, ok, err)
		}
	}
}

// Ways: so is what is wrong with a state.
func TestStateFaults(t *testing.T) {
	many := make([]api.Run, maxRuns+1)
	for i := range many {
		many[i] = api.Run{From: 2*i + 1, To: 2*i + 1}
	}
	wide := api.State{Seen: many}
	told(t, "runs", check(wide), tooMany, []place{{"runs", maxRuns + 1}})
	wide.Facts = make([]api.Fact, 9)
	told(t, "runs, and facts of no kind", check(wide), tooMany, []place{{"runs", maxRuns + 1}})
	told(t, "a fact of no kind", check(api.State{Seen: many[:maxRuns], Facts: make([]api.Fact, 1)}), noState, []place{{"facts of a state", 1}})
	told(t, "a run of no dots", check(api.State{Seen: make([]api.Run, 1)}), noState, []place{{"facts of a state", 0}})
	for _, s := range []api.State{{}, {Seen: many[:1]}, {Seen: many[:maxRuns]}, {Seen: []api.Run{}, Facts: []api.Fact{}}} {
		if err := check(s); err != nil || faultOf(err) != noFault {
			t.Errorf("%d runs: %v", len(s.Seen), err)
		}
	}
}

// Ways: where there is a state, there is no error.
func TestStateOf(t *testing.T) {
	run, fact := nums(1, 7, 9), wire.List(wire.Num(1), wire.Num(7), wire.Text("k"), wire.Num(3), wire.Text(""), wire.Num(-4))
	for _, b := range []string{of(nil, nil), of(list(run), nil), of(list(run), list(fact)), of(list(nums(0, 1, 1), run), list(fact))} {
		s, err := stateOf(b)
		if err != nil || faultOf(err) != noFault || Put(s) != b {
			t.Errorf("13.1: %x: %v, %v", b, s, err)
		}
	}
}

// Ways: no two faults say the same; no error is no fault.
func TestFaultTexts(t *testing.T) {
	seen := map[string]bool{}
	for f := noFault; f <= noState; f++ {
		if f.Error() == "" || seen[f.Error()] {
			t.Errorf("fault %d says %q", int(f), f.Error())
		}
		seen[f.Error()] = true
	}
	if f := faultOf(nil); f != noFault {
		t.Errorf("no error: %v", f)
	}
}
