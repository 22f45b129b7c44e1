package locks_test

import (
	"slices"
	"testing"

	"wavewright/api"
	"wavewright/disk"
	"wavewright/locks"
)

// J2: the disk's errors.
func TestWhileDown(t *testing.T) {
	d := with(t, "a=0", "b=1", "bad=x")
	fell(t, d)
	for _, names := range [][]string{{"a"}, {"b"}, {"bad"}, {"none"}, {"a", "zz.z"}} {
		if a, b := locks.Take(d, 0, names, all), locks.Give(d, 0, names); a != api.ErrDown || b != api.ErrDown {
			t.Errorf("%q: Take = %v, Give = %v, want %v", names, a, b, api.ErrDown)
		}
	}
	if a, b := locks.Take(d, 0, []string{"a", "A"}, all), locks.Give(d, 0, []string{"A", "a"}); a != api.ErrShape || b != api.ErrShape {
		t.Errorf("Take = %v, Give = %v, want %v", a, b, api.ErrShape)
	}
	if a, b := locks.Take(d, 4, []string{"a"}, all), locks.Give(d, -1, []string{"a"}); a != api.ErrBound || b != api.ErrBound {
		t.Errorf("Take = %v, Give = %v, want %v", a, b, api.ErrBound)
	}
	d.Restart(0, 0)
	has(t, d, "a=0 b=1 bad=x")
}

// each: whatever falls, and whatever is kept, of each lock the owner is as it was, or as it is to be; done again, all is as it is to be.
func each(t *testing.T, what string, ahead []string, do func(*disk.Disk) error, may map[string][]int, want string) {
	t.Helper()
	for steps := 0; ; steps++ {
		fallen := false
		for keep := -1; keep <= 5; keep++ {
			for torn := -1; torn <= 2; torn++ {
				d := with(t, ahead...)
				d.Arm(steps)
				err := do(d)
				if fallen = err != nil; fallen && (err != api.ErrDown || !d.Down()) {
					t.Fatalf("%s with %d steps left = %v", what, steps, err)
				}
				d.Restart(keep, torn)
				for name, l := range may {
					n, had, err := locks.Owner(d, name)
					if !had {
						n = -1
					}
					if !slices.Contains(l, n) || err != nil || !fallen && n != l[1] {
						t.Errorf("%s, %d steps, Restart(%d, %d): Owner(%q) = %d, %v, %v", what, steps, keep, torn, name, n, had, err)
					}
				}
				good(t, do(d))
				has(t, d, want)
			}
		}
		if !fallen {
			return
		}
	}
}

// J2, W3, W6: falls at every step.
func TestFalls(t *testing.T) {
	ahead := []string{"dead=2", "own=0", "held=1"}
	each(t, "Take", ahead, func(d *disk.Disk) error { return locks.Take(d, 0, []string{"own", "new", "dead"}, but(2)) },
		map[string][]int{"own": {0, 0}, "new": {-1, 0}, "dead": {2, 0}, "held": {1, 1}}, "dead=0 held=1 new=0 own=0")
	ahead = append(ahead, "mine=0", "too=0")
	each(t, "Give", ahead, func(d *disk.Disk) error { return locks.Give(d, 0, []string{"own", "none", "dead", "mine"}) },
		map[string][]int{"own": {0, -1}, "mine": {0, -1}, "none": {-1, -1}, "dead": {2, 2}, "too": {0, 0}}, "dead=2 held=1 too=0")
}

// dice: numbers that look drawn, the same each time.
type dice uint64

func (d *dice) below(n int) int {
	*d = *d*6364136223846793005 + 1442695040888963407
	return int(uint64(*d>>33) % uint64(n))
}

// names that are drawn, few of them wrong.
func (d *dice) names() []string {
	var l []string
	for range d.below(5) {
		l = append(l, []string{"a", "b", "c", "net", "web", "x9"}[d.below(6)])
	}
	if d.below(20) == 0 {
		l = slices.Insert(l, d.below(len(l)+1), []string{"", "A", "b.b", "zz.z"}[d.below(4)])
	}
	return l
}

// plain: by the words: owners, -1: nobody, -2: other bytes.
type plain map[string]int

func (p plain) owner(name string) (int, error) {
	n, ok := p[name]
	if !ok {
		return 0, api.ErrShape
	}
	if n == -2 {
		return 0, api.ErrText
	}
	return n, nil
}

func (p plain) take(who int, names []string, alive func(int) bool) error {
	if who < 0 || who > 3 {
		return api.ErrBound
	}
	names = slices.Clone(names)
	slices.Sort(names)
	for _, name := range names {
		n, err := p.owner(name)
		if err != nil {
			return err
		}
		if n >= 0 && n != who && alive(n) {
			return api.ErrHeld
		}
	}
	for _, name := range names {
		p[name] = who
	}
	return nil
}

func (p plain) give(who int, names []string) error {
	if who < 0 || who > 3 {
		return api.ErrBound
	}
	for _, name := range names {
		if _, err := p.owner(name); err != nil {
			return err
		}
	}
	for _, name := range names {
		if p[name] == who {
			p[name] = -1
		}
	}
	return nil
}

// asPlain: does each lock have the owner that it is to have?
func asPlain(t *testing.T, d *disk.Disk, p plain) {
	t.Helper()
	var want []string
	for name, n := range p {
		got, had, err := locks.Owner(d, name)
		if err == api.ErrText {
			got, had = -2, true
		} else if err != nil {
			t.Fatalf("Owner(%q) = %v", name, err)
		}
		if had != (n != -1) || had && got != n {
			t.Fatalf("Owner(%q) = %d, %v, want %d", name, got, had, n)
		}
		if n != -1 {
			want = append(want, name)
		}
	}
	slices.Sort(want)
	if l, err := locks.All(d); !slices.Equal(l, want) || err != nil {
		t.Fatalf("All = %q, %v, want %q", l, err, want)
	}
}

// J1, J2, W6: drawn deeds, held against the words; all is kept.
func TestDrawn(t *testing.T) {
	die := dice(11)
	for range 300 {
		d := disk.New()
		p := plain{"a": -1, "b": -1, "c": -1, "net": -1, "web": -1, "x9": -1}
		dead := 9
		for range 60 {
			who, names := die.below(4), die.names()
			if die.below(30) == 0 {
				who = []int{-1, 4}[die.below(2)]
			}
			var got, want error
			switch die.below(8) {
			case 0, 1, 2:
				got, want = locks.Take(d, who, names, but(dead)), p.take(who, names, but(dead))
			case 3, 4:
				got, want = locks.Give(d, who, names), p.give(who, names)
			case 5:
				dead = die.below(6)
			case 6:
				d.Restart(0, 0)
			default:
				if die.below(6) == 0 { // somebody spoils a lock
					good(t, d.Write("lock.c", "spoilt"), d.Sync())
					p["c"] = -2
				} else if p["c"] == -2 {
					good(t, d.Remove("lock.c"), d.Sync())
					p["c"] = -1
				}
			}
			if got != want {
				t.Fatalf("%d, %q: %v, want %v", who, names, got, want)
			}
			asPlain(t, d, p)
		}
	}
}
