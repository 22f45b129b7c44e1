package cloud

import (
	"wavewright/api"
	"wavewright/value"
)

// deed of a token: its operation, and the number that was answered (0: none is).
type deed struct{ op, id int }

// Create a thing: its number. What a token did already is not done again.
func (c *Cloud) Create(token, kind string, v api.Value) (int, error) {
	if err := attributes(v); err != nil {
		return 0, err
	}
	if !value.Name(kind) {
		return 0, api.ErrShape
	}
	return c.call(token, api.Create, func() (int, error) {
		if len(c.things) >= c.quota {
			return 0, api.ErrQuota
		}
		c.given++
		c.things[c.given] = api.Thing{ID: c.given, Kind: kind, Attrs: value.Copy(v)}
		return c.given, nil
	})
}

// Update a thing.
func (c *Cloud) Update(token string, id int, v api.Value) error {
	if err := attributes(v); err != nil {
		return err
	}
	_, err := c.call(token, api.Update, func() (int, error) {
		if !c.has(id) {
			return 0, api.ErrNone
		}
		c.change(id, v)
		return 0, nil
	})
	return err
}

// Delete a thing.
func (c *Cloud) Delete(token string, id int) error {
	_, err := c.call(token, api.Delete, func() (int, error) {
		if !c.has(id) {
			return 0, api.ErrNone
		}
		delete(c.things, id)
		return 0, nil
	})
	return err
}

// call: what all operations have in common. Who fell behind one asks again by its token, so what that did is told, and not done a second time; what was refused may still be done by it.
func (c *Cloud) call(token string, op int, do func() (int, error)) (int, error) {
	if err := c.begin(); err != nil {
		return 0, err
	}
	if was, ok := c.did[token]; ok {
		if was.op != op {
			return 0, api.ErrState
		}
		return was.id, nil
	}
	id, err := do()
	if err != nil {
		return 0, err
	}
	c.did[token] = deed{op, id}
	return id, nil
}

// begin a call: it is counted also if it is refused, for it was made.
func (c *Cloud) begin() error {
	if err := c.disk.Step(); err != nil {
		return err
	}
	n := c.calls
	c.calls++
	if _, ok := c.fails[n]; ok {
		delete(c.fails, n)
		return api.ErrBusy
	}
	return nil
}
