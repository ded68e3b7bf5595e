package match

// seen is what is known of a text from a place on: of each place those leaves that may take its byte in a match whose rest is there, too. It doesn't keep the text itself.
type seen struct {
	*Prog
	from, size int
	rows       table // by place, the first one from
}

// see goes through a text from its end back to a place.
func (p *Prog) see(s string, from int) seen {
	t := seen{Prog: p, from: from, size: len(s), rows: newTable(len(s)-from+1, p.words)}
	for at := len(s) - 1; at >= from; at-- {
		row := t.row(at)
		row.join(p.whole.last.row(t.spot(at + 1)))
		row.joinRows(p.ahead, t.row(at+1))
		row.keep(p.taking.row(int(s[at])))
	}
	return t
}

func (t seen) row(at int) leaves {
	return t.rows.row(at - t.from)
}

func (t seen) spot(at int) int {
	return spot(at, t.size)
}

// find: the first match from a place on, and of these the longest one.
func (t seen) find(at int) (int, int, bool) {
	for ; at <= t.size; at++ {
		if t.begins(at) {
			return at, t.end(at), true
		}
	}
	return 0, 0, false
}

// begins: does a match begin at a place?
func (t seen) begins(at int) bool {
	k := t.spot(at)
	return t.whole.empty[k] || t.whole.first.row(k).meet(t.row(at))
}

// end: that of the longest match that begins at a place, at which one begins.
func (t seen) end(from int) int {
	end := from
	now, next := make(leaves, t.words), make(leaves, t.words)
	now.join(t.whole.first.row(t.spot(from)))
	now.keep(t.row(from))
	// Only leaves are kept that come to an end, so no more is gone through than the match.
	for at := from + 1; !now.none(); at++ {
		if now.meet(t.whole.last.row(t.spot(at))) {
			end = at
		}
		clear(next)
		next.joinRows(t.behind, now)
		next.keep(t.row(at))
		now, next = next, now
	}
	return end
}
