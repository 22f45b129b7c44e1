package engine

import (
	"slices"
	"strconv"
	"strings"

	"wavewright/api"
	"wavewright/eval"
	"wavewright/state"
)

// work on one stack: what that has by now.
type work struct {
	machine Machine
	name    string
	has     api.State
}

// begin with a stack: what was about to be done comes first, for it may be done already, and the file would know nothing of it.
func begin(m Machine, name string) (*work, error) {
	has, err := state.Load(m.D, name)
	if err != nil {
		return nil, err
	}
	w := &work{machine: m, name: name, has: has}
	for len(w.has.Intents) > 0 {
		err := w.finish(0)
		if err == api.ErrQuota {
			err = w.drop(0)
		}
		if err != nil {
			return nil, err
		}
	}
	if w.has, err = Refresh(m, w.has); err != nil {
		return nil, err
	}
	return w, nil
}

// save what the stack has.
func (w *work) save() error { return state.Save(w.machine.D, w.name, w.has) }

// bring a stack's resources, in order, to what is wanted, and let go what is not; how each change is done is the caller's.
func (w *work) bring(s api.Stack, order []int, env eval.Env, do func(api.Change) error) error {
	for _, i := range order {
		if err := w.bringOne(s.Resources[i], env, do); err != nil {
			return err
		}
	}
	wanted := func(name string) bool {
		_, is := env.Res[name]
		return is
	}
	for h := range unwanted(w.has.Held, wanted) {
		if err := do(api.Change{Op: api.Delete, Held: h}); err != nil {
			return err
		}
	}
	return nil
}

// bringOne resource to what is wanted; it may be named from then on.
func (w *work) bringOne(r api.Resource, env eval.Env, do func(api.Change) error) error {
	attrs, err := attributes(r, env)
	if err != nil {
		return err
	}
	for _, c := range wantedOf(w.has.Held, api.Held{Name: r.Name, Kind: r.Kind, Attrs: attrs}) {
		if err := do(c); err != nil {
			return err
		}
	}
	env.Res[r.Name] = numbered(attrs, numberOf(w.has.Held, r.Name))
	return nil
}

// operate on the cloud. What is about to be done is noted ahead, so that behind a fall it is known by its token.
func (w *work) operate(c api.Change) error {
	w.has.Intents = append(w.has.Intents, api.Intent{Op: c.Op, Held: c.Held, Token: w.token(c)})
	if err := w.room(c); err != nil {
		return err
	}
	if err := w.save(); err != nil {
		return err
	}
	last := len(w.has.Intents) - 1
	err := w.finish(last)
	if err == api.ErrBusy || err == api.ErrQuota {
		// The cloud's refusal came first: it is told also if this can't be saved. What is noted then is finished by who begins next.
		_ = w.drop(last)
	}
	return err
}

// token of a change: no other change has it, for the serial goes up with each that is done.
func (w *work) token(c api.Change) string {
	return strings.Join([]string{w.name, c.Held.Name, strconv.Itoa(w.has.Serial), strconv.Itoa(c.Op)}, ".")
}

// room for what a change would have held: behind the call it would be too late to find that it can't be saved, now and whenever it is tried again. (That it can't be noted ahead of the call is said first, and that the text has too many bytes is found when it is saved: what is noted has more of them than what is held.)
func (w *work) room(c api.Change) error {
	if err := state.Check(w.has); err != nil {
		return err
	}
	if c.Op == api.Create && len(with(w.has.Held, c.Held)) > state.MaxHeld {
		return api.ErrMany
	}
	return nil
}

// finish what was noted at that place.
func (w *work) finish(at int) error {
	x := w.has.Intents[at]
	id, err := w.call(x)
	if err != nil && err != api.ErrNone {
		return err
	}
	w.has.Intents = slices.Delete(w.has.Intents, at, at+1)
	if err == api.ErrNone {
		w.has.Held = without(w.has.Held, x.Held.Name)
	} else {
		x.Held.ID = id
		w.done(api.Change{Op: x.Op, Held: x.Held})
	}
	w.has.Serial++
	return w.save()
}

// call the cloud: the number of what it was about.
func (w *work) call(x api.Intent) (int, error) {
	h := x.Held
	switch x.Op {
	case api.Create:
		return w.machine.C.Create(x.Token, h.Kind, h.Attrs)
	case api.Update:
		return h.ID, w.machine.C.Update(x.Token, h.ID, h.Attrs)
	}
	return h.ID, w.machine.C.Delete(x.Token, h.ID)
}

// drop what was noted at that place.
func (w *work) drop(at int) error {
	w.has.Intents = slices.Delete(w.has.Intents, at, at+1)
	return w.save()
}

// done: what is held behind a change.
func (w *work) done(c api.Change) {
	if c.Op == api.Delete {
		w.has.Held = without(w.has.Held, c.Held.Name)
	} else {
		w.has.Held = with(w.has.Held, c.Held)
	}
}
