package coord

import (
	"slices"

	"wavewright/api"
	"wavewright/locks"
)

// roomOfOne: so many files does the work on one stack need beside those that are there: its lock, and the state that is being saved.
const roomOfOne = 2

// each of the stacks that are named: something is done with it (by its place among these) under its lock; what is begun, and what is done, is noted.
func (c *Coord) each(names []string, begun, done string, do func(int) error) error {
	if err := c.noteFirst(slices.Concat([]string{begun}, names)...); err != nil {
		return err
	}
	for k, name := range names {
		err := c.locked(name, names[k+1:], func() error {
			if err := do(k); err != nil {
				return err
			}
			return c.note(done, name)
		})
		if err != nil {
			return err
		}
	}
	return c.note(ends)
}

// locked: something is done while the lock of the stack is had, that is given back whatever comes of it.
func (c *Coord) locked(name string, behind []string, do func() error) error {
	if err := c.makeRoom(behind); err != nil {
		return err
	}
	lock := []string{name}
	if err := locks.Take(c.machine.D, c.who, lock, c.alive); err != nil {
		return err
	}
	err := do()
	if given := locks.Give(c.machine.D, c.who, lock); err == nil {
		err = given
	}
	return err
}

// makeRoom on a disk that is nearly full: a fall may have left the lock of a stack that comes behind. It would take the place of what the one ahead needs, and the same deed could never be done again.
func (c *Coord) makeRoom(behind []string) error {
	files, err := c.machine.D.List()
	if err != nil || len(files)+roomOfOne <= api.MaxFiles {
		return err
	}
	// What is wrong with one of these locks is told when it is taken.
	_ = locks.Give(c.machine.D, c.who, behind)
	return nil
}
