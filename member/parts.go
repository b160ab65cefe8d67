package member

import (
	"deaddrop/api"
	"deaddrop/wire"
)

// recordWire is r as a list, and recordOf takes it apart again.
func recordWire(r api.Record) api.Wire {
	return wire.List(wire.Num(r.Seq), wire.Text(r.Prev), wire.Num(r.Kind), wire.Num(r.Dev), wrapsWire(r.Wraps), wire.Text(r.Tag))
}

// recordOf is the record that w says, whether it may be or not; false: w says
// none.
func recordOf(w api.Wire) (api.Record, bool) {
	if !isList(w, api.WNum, api.WText, api.WNum, api.WNum, api.WList, api.WText) {
		return api.Record{}, false
	}
	wraps, ok := wrapsOf(w.L[4])
	if !ok {
		return api.Record{}, false
	}
	return api.Record{Seq: w.L[0].N, Prev: w.L[1].S, Kind: w.L[2].N, Dev: w.L[3].N, Wraps: wraps, Tag: w.L[5].S}, true
}

// wrapsWire is l as a list of lists, and wrapsOf takes it apart again.
func wrapsWire(l []api.Wrap) api.Wire {
	out := make([]api.Wire, len(l))
	for i, w := range l {
		out[i] = wire.List(wire.Num(w.Dev), wire.Text(w.Box))
	}
	return wire.List(out...)
}

// wrapsOf are the wraps that w, a list, says; false: it says none.
func wrapsOf(w api.Wire) ([]api.Wrap, bool) {
	var out []api.Wrap
	for _, item := range w.L {
		if !isList(item, api.WNum, api.WText) {
			return nil, false
		}
		out = append(out, api.Wrap{Dev: item.L[0].N, Box: item.L[1].S})
	}
	return out, true
}

// isList tells whether w is a list of just these kinds.
func isList(w api.Wire, kinds ...int) bool {
	if w.Kind != api.WList || len(w.L) != len(kinds) {
		return false
	}
	for i, kind := range kinds {
		if w.L[i].Kind != kind {
			return false
		}
	}
	return true
}
