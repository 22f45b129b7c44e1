package coord

import (
	"strings"

	"wavewright/api"
)

// journal: the log's file.
const journal = "journal"

// Words that are noted: ahead of a deed on stacks; behind each of them; behind all.
const (
	deploys  = "deploy"
	destroys = "destroy"
	commits  = "commit"
	goes     = "gone"
	ends     = "end"
)

// little room of the log, in bytes: a deed on MaxStacks stacks with the longest names notes 326 of them at most.
const little = api.MaxRecord

// note words, with blanks between.
func (c *Coord) note(words ...string) error { return c.log.Add(strings.Join(words, " ")) }

// noteFirst: note words, and see that there is room for those that will be noted behind them.
func (c *Coord) noteFirst(words ...string) error {
	if c.log.Size() > api.MaxData-little {
		if err := c.log.Clear(); err != nil {
			return err
		}
	}
	return c.note(words...)
}

// Begun: what was begun, and not brought to its end: its words, and the stacks that were done of it.
func (c *Coord) Begun() (words, done []string) {
	for _, record := range c.log.Records() {
		l := strings.Split(record, " ")
		switch l[0] {
		case deploys, destroys:
			words, done = l, nil
		case commits, goes:
			if words != nil {
				done = append(done, l[1:]...)
			}
		case ends:
			words, done = nil, nil
		}
	}
	return words, done
}

// Resume what was begun: false: nothing was.
func (c *Coord) Resume(w api.Work) (bool, error) {
	words, _ := c.Begun()
	if len(words) == 0 {
		return false, nil
	}
	return true, c.again(w, words[0], words[1:])
}

// again: a deed on the stacks that are named. If none is, nothing of it is left to be done: named as targets, none would be all.
func (c *Coord) again(w api.Work, deed string, names []string) error {
	if len(names) == 0 {
		return c.noteFirst(ends)
	}
	if deed == destroys {
		return c.Destroy(w, names)
	}
	return c.Deploy(w, names)
}
