package code

import "stratum/api"

// unwritten is what of a record is not written for its kind. Of RecMap the number is left, though there is room for it: it has to be nought as well.
func unwritten(r api.Rec) api.Rec {
	switch r.Kind {
	case api.RecPrepare:
		r.ID, r.Nodes, r.Facts = 0, nil, nil
	case api.RecCommit:
		r.ID, r.At, r.Nodes = 0, 0, nil
	case api.RecAbort, api.RecEnd, api.RecStart:
		r.ID = 0
	case api.RecMap:
		r.Map = api.Map{}
	case api.RecTake:
		r.ID, r.From, r.To, r.Entries = 0, 0, 0, nil
	}
	return r
}

// nought says whether a record has nothing beside its kind.
func nought(r api.Rec) bool {
	return r.ID == 0 && r.At == 0 && len(r.Nodes) == 0 && len(r.Facts) == 0 &&
		r.Map.Epoch == 0 && len(r.Map.L) == 0 && r.From == 0 && r.To == 0 && len(r.Entries) == 0
}

// within says whether a number is from 0 to most.
func within(v, most int) bool { return v >= 0 && v <= most }

func soundNodes(l []int) bool {
	if len(l) > api.MaxNodes {
		return false
	}
	for i, node := range l {
		if !within(node, api.MaxNodes-1) || i > 0 && node <= l[i-1] {
			return false
		}
	}
	return true
}

func soundKey(key []int) bool {
	if len(key) > api.MaxDims {
		return false
	}
	for _, place := range key {
		if !within(place, api.MaxSize-1) {
			return false
		}
	}
	return true
}

func soundFacts(l []api.Fact) bool {
	if len(l) > api.MaxFacts {
		return false
	}
	for _, f := range l {
		if !soundKey(f.Key) {
			return false
		}
	}
	return true
}

func soundEntries(l []api.Entry) bool {
	if len(l) > api.MaxVersion {
		return false
	}
	for i, e := range l {
		if !soundFacts(e.Facts) || i > 0 && e.At <= l[i-1].At {
			return false
		}
	}
	return true
}

// soundSpans asks no more than that each span may be written: whether they are a map, layer 12 says.
func soundSpans(l []api.Span) bool {
	if len(l) > api.MaxSpans {
		return false
	}
	for _, s := range l {
		if !within(s.From, api.MaxSize-1) || !within(s.Node, api.MaxNodes-1) {
			return false
		}
	}
	return true
}
