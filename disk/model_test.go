package disk_test

import (
	"slices"
	"testing"

	"heliograph/api"
	"heliograph/disk"
)

// model is a disk told once more, as the chapter's words say it: what each sector holds now, what is safe, and a list of writes.
type model struct {
	holds, safe   []api.Block
	at            []int
	says          []api.Block
	dead          bool
	arm, fail     int
	isArm, isFail bool
	ops           int
}

func (m *model) ask(i int, writes bool) api.Errno {
	if m.dead {
		return api.ErrDead
	}
	if i < 0 || i >= len(m.holds) {
		return api.ErrArg
	}
	if m.isFail {
		if m.fail == 0 {
			m.isFail = false
			return api.ErrIo
		}
		m.fail--
	}
	if writes && m.isArm {
		if m.arm == 0 {
			m.dead = true
			return api.ErrDead
		}
		m.arm--
	}
	m.ops++
	return api.OK
}

func (m *model) crash(keep []bool) {
	for k, i := range m.at {
		if k < len(keep) && keep[k] {
			m.safe[i] = m.says[k]
		}
	}
	m.holds = slices.Clone(m.safe)
	m.at, m.says = nil, nil
	m.dead, m.isArm, m.isFail = false, false, false
}

// dice are numbers in an order that is always the same.
type dice uint64

func (d *dice) to(n int) int {
	*d = *d*6364136223846793005 + 1442695040888963407
	return int(uint64(*d)>>33) % n
}

func step(t *testing.T, d *disk.Disk, m *model, dice *dice) {
	i := dice.to(len(m.holds)+2) - 1
	switch dice.to(12) {
	case 0, 1, 2, 3:
		b := block(byte(1 + dice.to(255)))
		e := m.ask(i, true)
		if e == api.OK {
			m.holds[i] = b
			m.at, m.says = append(m.at, i), append(m.says, b)
		}
		answers(t, "Write", d.Write(i, b), e)
	case 4, 5, 6:
		e := m.ask(i, false)
		var b api.Block
		if e == api.OK {
			b = m.holds[i]
		}
		if got, err := d.Read(i); err != e || got != b {
			t.Errorf("Read(%d): %d, error %d; want %d, %d", i, got[0], err, b[0], e)
		}
	case 7:
		e := m.ask(0, true)
		if e == api.OK {
			m.safe = slices.Clone(m.holds)
			m.at, m.says = nil, nil
		}
		answers(t, "Sync", d.Sync(), e)
	case 8, 9:
		stepSetting(t, d, m, dice)
	case 10, 11:
		if !m.dead && dice.to(3) > 0 {
			return
		}
		keep := make([]bool, dice.to(len(m.at)+3))
		for k := range keep {
			keep[k] = dice.to(2) == 1
		}
		m.crash(keep)
		answers(t, "Crash", d.Crash(keep), api.OK)
	}
}

func stepSetting(t *testing.T, d *disk.Disk, m *model, dice *dice) {
	n, want := dice.to(8)-2, api.OK
	if m.dead {
		want = api.ErrDead
	}
	if dice.to(2) == 0 {
		if !m.dead {
			m.isArm, m.arm = n >= 0, n
		}
		answers(t, "Arm", d.Arm(n), want)
		return
	}
	if !m.dead {
		m.isFail, m.fail = n >= 0, n
	}
	answers(t, "Fail", d.Fail(n), want)
}

// P2.1 to P2.7: long rows of calls, against the model; now and then the disk goes on as its copy.
func TestDiskAgainstModel(t *testing.T) {
	dice := dice(1)
	for run := range 200 {
		n := 1 + dice.to(5)
		d := fresh(t, n)
		m := &model{holds: make([]api.Block, n), safe: make([]api.Block, n)}
		for range 200 {
			step(t, d, m, &dice)
			if d.Dead() != m.dead || d.Ops() != m.ops || d.Len() != n || !slices.Equal(d.Pending(), m.at) {
				t.Errorf("dead %t, %d operations, %d sectors, pending %v; want %t, %d, %d, %v",
					d.Dead(), d.Ops(), d.Len(), d.Pending(), m.dead, m.ops, n, m.at)
			}
			if dice.to(10) == 0 {
				old := d
				d = old.Copy()
				_, _ = old.Write(0, block(255)), old.Crash([]bool{true})
			}
		}
		if t.Failed() {
			t.Fatalf("run %d", run)
		}
	}
}
