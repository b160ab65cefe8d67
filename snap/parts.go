package snap

import (
	"deaddrop/api"
	"deaddrop/wire"
)

// stateOf is the state whose Put is b, or why there is none.
func stateOf(b string) (api.State, error) {
	w, ok := wire.Get(b)
	if !ok {
		return api.State{}, partError{"bytes", len(b), noWire}
	}
	lists, err := items(w, api.WList, api.WList)
	if err != nil {
		return api.State{}, err
	}
	seen, err := all(lists[0].L, "run", runOf)
	if err != nil {
		return api.State{}, err
	}
	left, err := all(lists[1].L, "fact", factOf)
	if err != nil {
		return api.State{}, err
	}
	s := api.State{Seen: seen, Facts: left}
	if err := check(s); err != nil {
		return api.State{}, err
	}
	return s, nil
}

// all is what each of l says, or what is wrong with the first that says
// nothing; part is what each of them is to be.
func all[T any](l []api.Wire, part string, of func(api.Wire) (T, error)) ([]T, error) {
	var out []T
	for i, w := range l {
		one, err := of(w)
		if err != nil {
			return nil, partError{part, i, err}
		}
		out = append(out, one)
	}
	return out, nil
}

// runOf is the run that w says.
func runOf(w api.Wire) (api.Run, error) {
	l, err := items(w, api.WNum, api.WNum, api.WNum)
	if err != nil {
		return api.Run{}, err
	}
	return api.Run{Dev: l[0].N, From: l[1].N, To: l[2].N}, nil
}

// factOf is the fact that w says.
func factOf(w api.Wire) (api.Fact, error) {
	l, err := items(w, api.WNum, api.WNum, api.WText, api.WNum, api.WText, api.WNum)
	if err != nil {
		return api.Fact{}, err
	}
	return api.Fact{Dot: api.Dot{Dev: l[0].N, N: l[1].N}, Key: l[2].S, Kind: l[3].N, Item: l[4].S, N: l[5].N}, nil
}

// items are those of w, if it is a list of just these kinds, or why it is none.
func items(w api.Wire, kinds ...int) ([]api.Wire, error) {
	switch {
	case w.Kind != api.WList:
		return nil, partError{"kind", w.Kind, otherKind}
	case len(w.L) != len(kinds):
		return nil, partError{"items", len(w.L), otherCount}
	}
	for i, kind := range kinds {
		if w.L[i].Kind != kind {
			return nil, partError{"item", i, partError{"kind", w.L[i].Kind, otherKind}}
		}
	}
	return w.L, nil
}
