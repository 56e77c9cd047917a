package meta

import (
	"pinfold/api"
	"pinfold/vmem"
	"pinfold/word"
)

// line is where in a book a record is asked for; known, if there is such a row of records.
type line struct {
	book
	row   row
	known bool
	index int
}

// smallLine is that of a slot's record.
func smallLine(m *vmem.Memory, p api.Spot) line {
	r, known := records(p.Slot, p.Class)
	return line{book{m, p.Slot}, r, known, p.Index}
}

// greatLine is that of a great record.
func greatLine(m *vmem.Memory, tenant, index int) line {
	r, known := greats(tenant)
	return line{book{m, tenant}, r, known, index}
}

// refusal is why no record may be read there, or none that may be or not be written.
func (l line) refusal(may bool) api.Errno {
	return asked(
		question{l.there, api.ErrNil},
		question{func() bool { return l.known && may }, api.ErrArg},
		question{func() bool { return l.row.has(l.index) }, api.ErrRange},
		question{l.open, api.ErrNone},
	)
}

// told is the record that stands there. One that is none is told as nothing, so what is answered beside an error is zero.
func told[R any](l line, parts ...part[R]) (R, api.Errno) {
	var r R
	var b []byte
	is, e := false, l.refusal(true)
	if e != api.OK {
		goto refused
	}
	b, _ = l.Peek(l.row.at(l.index), l.row.width)
	r, is = unpacked(b, parts...)
	e = api.ErrBook
	if !is {
		goto refused
	}
	return r, api.OK
refused:
	return r, e
}

// laid lays a record there.
func laid[R any](l line, r R, parts ...part[R]) api.Errno {
	e := l.refusal(fits(r, parts...))
	if e != api.OK {
		goto refused
	}
	return l.Poke(l.row.at(l.index), packed(r, parts...))
refused:
	return e
}

// letters are the states' bytes in the text of a sheet.
const letters = "fklhg"

// text is that of a sheet of the states of all slots in the line's row; false, if one of them has no record.
func (l line) text() (string, bool) {
	b, _ := l.Peek(l.row.from, l.row.many*l.row.width)
	t, parts, all := make([]byte, 0, l.row.many), small(), true
records:
	for _, x := range word.Parts(b, l.row.width) {
		r, is := unpacked(x, parts[:]...)
		all = is
		if !all {
			break records
		}
		t = append(t, letters[r.State])
	}
	return string(t), all
}
