package state

import (
	"wavewright/api"
	"wavewright/disk"
	"wavewright/value"
)

// draft: the file that is being saved, whosever it will be. It is no stack's, for those begin otherwise; one that a fall left there is written over.
const draft = "draft"

// ahead of a stack's name in that of its state's file.
const ahead = "state."

// fileOf the stack of that name.
func fileOf(name string) string { return ahead + name }

// All stacks whose state was ever saved, rising.
func All(d *disk.Disk) ([]string, error) { return d.Behind(ahead) }

// Load the state of a stack; one that is not there is empty.
func Load(d *disk.Disk, name string) (api.State, error) {
	if !value.Name(name) {
		return api.State{}, api.ErrShape
	}
	t, err := d.Read(fileOf(name))
	if err == api.ErrNone {
		return api.State{}, nil
	}
	if err != nil {
		return api.State{}, err
	}
	return Parse(t)
}

// Save the state of a stack, as a whole: it is the elder one, or this one, whatever happens. (That its text has too many bytes the disk tells.)
func Save(d *disk.Disk, name string, s api.State) error {
	if !value.Name(name) {
		return api.ErrShape
	}
	t, err := Text(s)
	if err != nil {
		return err
	}
	for _, step := range savingSteps(d, fileOf(name), t) {
		if err := step(); err != nil {
			return err
		}
	}
	return nil
}

// savingSteps: the text is written beside the file, and put in its place as a whole.
// No Sync stands between: of changes the first ones are kept, so that the Move never is without all that was written.
func savingSteps(d *disk.Disk, file, text string) []func() error {
	return []func() error{
		func() error { return d.Write(draft, text) },
		func() error { return d.Move(draft, file) },
		func() error { return d.Sync() },
	}
}
