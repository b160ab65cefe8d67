package member

import "deaddrop/api"

// Check tells whether log is a chain: each record hangs on the one ahead, and
// adds who is no member then, or revokes who is one.
func Check(log ...api.Record) bool {
	return reason(checkChain(log)) == nil
}

// checkChain tells what is wrong with log, if something is: the first thing.
func checkChain(log []api.Record) error {
	if len(log) > api.MaxLog {
		return refusal{"records", len(log), errMany}
	}
	end := tail{}
	for i, r := range log {
		if err := end.take(r); err != nil {
			return refusal{"record", i, err}
		}
	}
	return nil
}

// tail is what the next record of a chain hangs on; of no records its zero value.
type tail struct {
	seq     int
	hash    string
	members [api.MaxDevs]bool
}

// take has r be the last record, or tells why it can't be the next one.
func (t *tail) take(r api.Record) error {
	switch {
	case !May(r):
		return errRecord
	case r.Seq != t.seq+1:
		return refusal{"seq", r.Seq, errSeq}
	case r.Prev != t.hash:
		return refusal{"bytes of prev", len(r.Prev), errPrev}
	}
	if err := t.check(r.Kind, r.Dev); err != nil {
		return refusal{"device", r.Dev, err}
	}
	t.seq = r.Seq
	t.hash = Hash(r)
	t.members[r.Dev] = r.Kind == api.RAdd
	return nil
}

// check tells why a record of this kind and dev can't be the next one. Device 0
// lets all others in: without it there is nobody who could go on.
func (t *tail) check(kind, dev int) error {
	add, is := kind == api.RAdd, t.members[dev]
	switch {
	case t.seq == 0 && (!add || dev != 0):
		return errFirst
	case add && is:
		return errHave
	case !add && !is:
		return errNone
	case !add && dev == 0:
		return errStay
	}
	return nil
}
