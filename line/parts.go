package line

import "yardarm/api"

// kinds are the first words of lines, by their kinds; a line of Kind 0 has none.
var kinds = [...]string{
	api.EvBegin:  "begin",
	api.EvWrite:  "write",
	api.EvRead:   "read",
	api.EvScan:   "scan",
	api.EvCommit: "commit",
	api.EvAbort:  "abort",
	api.LnOrder:  "order",
	api.LnMatch:  "match",
	api.LnWant:   "want",
}

// parts are what lines have behind their first words; each call goes over the next one, in a text or in a line.
type parts interface {
	name()
	level()
	version()
	first()
	guarantees()
	// repeat goes over the row anew as long as there is more, but at most so often.
	repeat(most int, row ...func())
}

// through goes over all that a line of the kind has behind its first word.
func through(kind int, p parts) {
	switch kind {
	case api.EvBegin:
		all(p.name, p.name, p.level)
	case api.EvWrite:
		all(p.name, p.name)
	case api.EvRead:
		all(p.name, p.name, p.version)
	case api.EvScan:
		all(p.name, p.name)
		p.repeat(api.MaxScan, p.name, p.version)
	case api.EvCommit, api.EvAbort:
		all(p.name)
	case api.LnOrder:
		all(p.name)
		p.repeat(api.MaxTransactions, p.name)
	case api.LnMatch:
		all(p.name, p.name, p.first)
		p.repeat(api.MaxTransactions, p.name)
	case api.LnWant:
		all(p.name, p.guarantees)
	}
}

// all goes over the row, part by part.
func all(row ...func()) {
	for _, part := range row {
		part()
	}
}

// fault is what goes wrong, and where; a line that is wrong is left by a panic with it.
type fault struct {
	at  int
	err api.Errno
}

// caught tells the fault by which do was left, if it was.
func caught(do func()) (f fault) {
	defer func() {
		f, _ = recover().(fault)
	}()
	do()
	return f
}
