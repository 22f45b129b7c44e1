package walog_test

import (
	"slices"
	"testing"

	"wavewright/api"
	"wavewright/disk"
	"wavewright/walog"
)

// added: of the records as many as a log took; what else it then has is the one that was being added.
func added(d *disk.Disk, records []string) int {
	l, err := walog.Open(d, "log")
	if err != nil {
		return 0
	}
	for i, r := range records {
		if l.Add(r) != nil {
			return i
		}
	}
	return len(records)
}

// H2, W3: behind a fall at any step, with anything kept, there are the records that were added, or these and the one that was being added; those that are not there are added again, and none is there twice.
func TestFallAtAnyStep(t *testing.T) {
	records := []string{"deploy a", "", "commit a", "\x00\x00\x00\x00\x00\x00\x00", "end"}
	for steps := range 2*len(records) + 1 {
		for keep := -1; keep <= 2; keep++ {
			for torn := -1; torn <= 16; torn++ {
				d := disk.New()
				d.Arm(steps)
				n := added(d, records)
				if n != steps/2 {
					t.Fatalf("%d were added in %d steps", n, steps)
				}
				d.Restart(keep, torn)
				l := opened(t, d)
				got := l.Records()
				if !slices.Equal(got, records[:n]) && (n == len(records) || !slices.Equal(got, records[:n+1])) {
					t.Errorf("%d steps, Restart(%d, %d): Records() = %q, %d were added", steps, keep, torn, got, n)
				}
				has(t, d, l, got...)
				for _, r := range records[len(got):] {
					good(t, l.Add(r))
				}
				has(t, d, opened(t, d), records...)
			}
		}
	}
}

// H2: what is kept of a record is it as a whole, or nothing of it.
func TestKeptAsAWhole(t *testing.T) {
	cases := []struct {
		keep, torn int
		kept       bool
	}{{0, 0, false}, {0, -1, false}, {0, 1, false}, {0, 6, false}, {0, 8, false}, {0, 9, true}, {0, 99, true}, {1, 0, true}, {-1, 8, false}, {9, 9, true}}
	for _, c := range cases {
		d := with(t, frames("a"))
		l := opened(t, d)
		d.Arm(1)
		if err := l.Add("bcd"); err != api.ErrDown {
			t.Fatalf("Add = %v", err)
		}
		d.Restart(c.keep, c.torn)
		if l = opened(t, d); c.kept {
			has(t, d, l, "a", "bcd")
		} else {
			has(t, d, l, "a")
		}
	}
}

// H2: a Clear at which it falls clears all, or nothing.
func TestFallAtClear(t *testing.T) {
	for steps := range 3 {
		for keep := range 2 {
			d := with(t, frames("a", "b"))
			l := opened(t, d)
			d.Arm(steps)
			err := l.Clear()
			d.Restart(keep, 3)
			if l = opened(t, d); steps == 2 && err == nil || steps == 1 && keep == 1 {
				has(t, d, l)
			} else {
				has(t, d, l, "a", "b")
			}
		}
	}
}

// dice: numbers that look drawn, the same each time.
type dice uint64

func (d *dice) below(n int) int {
	*d = *d*6364136223846793005 + 1442695040888963407
	return int(uint64(*d>>33) % uint64(n))
}

// record: any bytes.
func (d *dice) record() string {
	b := make([]byte, d.below([]int{4, 40, api.MaxRecord + 2}[d.below(3)]))
	for i := range b {
		b[i] = byte(d.below(256))
	}
	return string(b)
}

// H1, H2, W3, W7: drawn records and falls, held against the words.
func TestDrawn(t *testing.T) {
	die := dice(8)
	for range 200 {
		d := disk.New()
		l := opened(t, d)
		var records []string
		for range 40 {
			s, clears := die.record(), die.below(20) == 0
			if die.below(4) == 0 {
				d.Arm(die.below(3))
			}
			switch {
			case clears && l.Clear() == nil:
				records = nil
			case clears:
			case l.Add(s) == nil:
				records = append(records, s)
			case len(s) <= api.MaxRecord && len(frames(records...))+6+len(s) <= api.MaxData && !d.Down():
				t.Fatalf("Add of %d bytes to %d was refused", len(s), l.Size())
			}
			if !d.Down() {
				d.Arm(-1)
				has(t, d, l, records...)
				continue
			}
			d.Restart(die.below(3)-1, die.below(420)-1)
			l = opened(t, d)
			if got := l.Records(); clears && len(got) == 0 || !clears && slices.Equal(got, append(slices.Clone(records), s)) {
				records = got // what was being done is kept
			}
			has(t, d, l, records...)
		}
	}
}
