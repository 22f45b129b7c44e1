package disk

// file: its bytes.
type file struct{ data string }

// Kinds of changes. (One that makes a file writes it: where it comes in the order of all, none is there.)
const (
	writes = iota
	appends
	moves
	removes
)

// change of files, which can be done anew on those that are kept.
type change struct {
	kind           int
	name, to, data string
}

// on these files it is done.
func (c change) on(files map[string]file) {
	switch c.kind {
	case writes:
		files[c.name] = file{c.data}
	case appends:
		files[c.name] = file{files[c.name].data + c.data}
	case moves:
		files[c.to] = files[c.name]
		delete(files, c.name)
	case removes:
		delete(files, c.name)
	}
}

// onFirst: done with the first n bytes of its data alone; without any it is not done, nor is one that has no data.
func (c change) onFirst(n int, files map[string]file) {
	n = min(n, len(c.data))
	if n < 1 {
		return
	}
	c.data = c.data[:n]
	c.on(files)
}

// copied: the same files in a map of their own.
func copied(files map[string]file) map[string]file {
	all := make(map[string]file, len(files))
	for name, f := range files {
		all[name] = f
	}
	return all
}
