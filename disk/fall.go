package disk

import "wavewright/api"

// Step of whoever falls with it, too: ErrDown, if it fell, or falls now.
func (d *Disk) Step() error {
	if d.left == 0 {
		d.down = true
	}
	if d.down {
		return api.ErrDown
	}
	if d.left > 0 {
		d.left--
	}
	d.steps++
	return nil
}

// Arm: it falls at the step behind so many more (below 0: never).
func (d *Disk) Arm(n int) { d.left = n }

// Down: did it fall?
func (d *Disk) Down() bool { return d.down }

// Steps: how many there were.
func (d *Disk) Steps() int { return d.steps }

// Sync: all that was changed is kept.
func (d *Disk) Sync() error {
	if err := d.Step(); err != nil {
		return err
	}
	d.keep(len(d.changes))
	d.changes = nil
	return nil
}

// Restart: of the changes that were not kept the first ones are (keep of them), and of the next one, if it writes, so many bytes (torn).
func (d *Disk) Restart(keep, torn int) {
	n := min(max(keep, 0), len(d.changes))
	d.keep(n)
	if n < len(d.changes) {
		d.changes[n].onFirst(torn, d.kept)
	}
	d.changes = nil
	d.files = copied(d.kept)
	d.left, d.down = -1, false
}

// keep the first n changes.
func (d *Disk) keep(n int) {
	for _, c := range d.changes[:n] {
		c.on(d.kept)
	}
}
