package ltp_test

import (
	"fmt"
	"math"
	"slices"
	"testing"

	"heliograph/api"
	"heliograph/ltp"
	"heliograph/receiver"
	"heliograph/sender"
)

// P16.5: the numbers of package api are those that the chapter and its limits say.
func TestNumbers(t *testing.T) {
	if api.HeardBlock != 1 || api.HeardSent != 2 || api.HeardLost != 3 || api.ReasonClosed != 5 || api.MaxClosed != 16 || api.MaxSessions != 8 {
		t.Error("a number of what is heard, or a limit, is another one than the chapter says")
	}
	if api.ErrLtp != 260 || api.ErrArg != 2 || api.ErrNone != 4 || api.ErrFull != 6 || api.MaxNodes != 6 || api.MaxBlock != 512 || api.MaxTick != maxTick {
		t.Error("a number of package api is another one than the document says")
	}
}

// rightLtps are sessions that may be, at each edge.
func rightLtps() map[string]api.Ltp {
	out := map[string]api.Ltp{}
	add := func(what string, f func(l *api.Ltp)) {
		for i, l := range []api.Ltp{unlike(), full()} {
			out[fmt.Sprint(what, " of ", i)] = changed(l, f)
		}
	}
	for i, l := range fine() {
		out[fmt.Sprint(i)] = l
	}
	for n := 1; n <= 6; n++ {
		out[fmt.Sprint("Node ", n)] = api.Ltp{Node: n, Rules: ours(), Next: 1}
	}
	for _, r := range rightRules() {
		out[text(r)] = api.Ltp{Node: 1, Rules: r, Next: 1}
	}
	for n := range 9 {
		out[fmt.Sprint(n, " of Out")] = withOut(full(), n)
		out[fmt.Sprint(n, " of In")] = withIn(full(), n)
	}
	for n := range 17 {
		out[fmt.Sprint(n, " of Closed")] = withClosed(full(), n)
	}
	for _, n := range []uint32{1, 2, 200001, math.MaxUint32 - 1, math.MaxUint32} {
		add(fmt.Sprint("Next ", n), func(l *api.Ltp) { l.Next = n })
	}
	for _, n := range []int{1, 3, 4, 5, 6} {
		add(fmt.Sprint("To ", n), func(l *api.Ltp) { l.Out[0].To, l.Out[1].To, l.Out[2].To = n, n, n })
		add(fmt.Sprint("Source of In ", n), func(l *api.Ltp) { l.In[0].Source, l.In[0].Session = n, 90000 })
		add(fmt.Sprint("Source of Closed ", n), func(l *api.Ltp) { l.Closed[0].Source, l.Closed[0].Session = n, 90000 })
	}
	for _, n := range []int{1, 3} {
		add(fmt.Sprint("State ", n), func(l *api.Ltp) { l.Out[0].Sending.State, l.Out[2].Sending.State = n, n })
	}
	for _, n := range []uint32{1, 2, math.MaxUint32} {
		add(fmt.Sprint("Session ", n), func(l *api.Ltp) {
			l.Out[0] = outward(1, n, 40)
			l.In[0], l.In[1] = taking(who{1, n}, 40), taking(who{3, n}, 40)
			l.Closed[0].Source, l.Closed[0].Session, l.Closed[1].Source, l.Closed[1].Session = 4, n, 6, n
		})
	}
	for _, n := range []int{1, 2, 511, 512} {
		add(fmt.Sprint("Total ", n), func(l *api.Ltp) {
			l.Out[0], l.In[0], l.Closed[0].Total = outward(1, 200001, n), taking(who{1, 70000}, n), n
		})
	}
	add("Serials", func(l *api.Ltp) { l.Closed[0].Serial, l.Closed[1].Serial = 0, math.MaxUint32 })
	add("Done", func(l *api.Ltp) { l.Closed[0].Done, l.Closed[1].Done = l.Closed[1].Done, l.Closed[0].Done })
	add("a number of In is one of Out", func(l *api.Ltp) { l.In[0].Session, l.Closed[0].Session = 200001, 200007 })
	add("all of a node but the last byte", func(l *api.Ltp) { l.In[0] = taking(who{1, 70000}, 450, rows(0, 449)...) })
	add("all claimed, but open", func(l *api.Ltp) { l.Out[0].Sending.Got = rows(0, 450) })
	return out
}

// P16.5: Check of sessions that may be, and of those that may not be for one reason.
func TestCheck(t *testing.T) {
	for what, l := range rightLtps() {
		if e := ltp.Check(l); e != api.OK || !may(l) {
			t.Errorf("%s: error %d", what, e)
		}
	}
	for what, l := range wrongLtps() {
		if e := ltp.Check(l); e != api.ErrLtp || may(l) {
			t.Errorf("%s: error %d, want ErrLtp", what, e)
		}
	}
}

// P16.5: each session of Out and of In at whichever place is asked for, and each one of Closed.
func TestCheckOfEachPlace(t *testing.T) {
	for i := range 8 {
		for what, f := range map[string]func(l *api.Ltp){
			"To": func(l *api.Ltp) { l.Out[i].To = 2 }, "State of Out": func(l *api.Ltp) { l.Out[i].Sending.State = 4 }, "Wait": func(l *api.Ltp) { l.Out[i].Sending.Wait++ }, "Tries": func(l *api.Ltp) { l.Out[i].Sending.Tries++ }, "Due": func(l *api.Ltp) { l.Out[i].Sending.Due = -1 },
			"State of In": func(l *api.Ltp) { l.In[i].State = 4 }, "Life": func(l *api.Ltp) { l.In[i].Life-- }, "Source": func(l *api.Ltp) { l.In[i].Source = 2 }, "Due of In": func(l *api.Ltp) { l.In[i].Due = -1 },
		} {
			if l := changed(full(), f); ltp.Check(l) != api.ErrLtp || may(l) {
				t.Errorf("%s at %d may be", what, i)
			}
		}
	}
	l := full()
	for i := range 16 {
		for j := range 16 {
			if i == j {
				continue
			}
			twice := changed(l, func(l *api.Ltp) { l.Closed[i].Source, l.Closed[i].Session = l.Closed[j].Source, l.Closed[j].Session })
			both := changed(l, func(l *api.Ltp) { l.In[i/2].Source, l.In[i/2].Session = l.Closed[j].Source, l.Closed[j].Session })
			in := changed(l, func(l *api.Ltp) { l.In[i/2] = taking(who{l.In[j/2].Source, l.In[j/2].Session}, 9) })
			out := changed(l, func(l *api.Ltp) { l.Out[i/2] = outward(6, l.Out[j/2].Sending.Session, 9) })
			if ltp.Check(twice) != api.ErrLtp || ltp.Check(both) != api.ErrLtp || i/2 != j/2 && (ltp.Check(in) != api.ErrLtp || ltp.Check(out) != api.ErrLtp) {
				t.Errorf("the numbers of %d at %d", j, i)
			}
		}
	}
}

// P16.5: the wrong sessions of wrongLtps may be by themselves, where it is not they that are wrong: so it is all sessions that may not be.
func TestWhatMayBeByItself(t *testing.T) {
	alone := 0
	for what, l := range wrongLtps() {
		right := what != "zero"
		for _, o := range l.Out {
			right = right && sender.Check(o.Sending) == api.OK
		}
		for _, s := range l.In {
			right = right && receiver.Check(s) == api.OK
		}
		if right {
			alone++
		}
	}
	if alone < 500 {
		t.Errorf("%d", alone)
	}
}

// P16.5: Check by chance, held against what is told once more.
func TestCheckHeld(t *testing.T) {
	d := chance(2)
	wrong := 0
	some := func() int { return []int{-1, 0, 1, 2, 3, 5, 6, 7, 77, 512, 513, math.MaxInt}[d.IntN(12)] }
	for range 20000 {
		l := withClosed(withIn(withOut(unlike(), 3+d.IntN(7)), 3+d.IntN(7)), 4+d.IntN(14))
		switch d.IntN(9) {
		case 0:
			l.Node = some()
		case 1:
			l.Next = uint32(d.IntN(2))
		case 2:
			l.Out[d.IntN(len(l.Out))].To = some()
		case 3:
			l.Out[d.IntN(len(l.Out))].Sending.State = some()
		case 4:
			s := &l.In[d.IntN(len(l.In))]
			s.Source, s.Session = some(), 70000+uint32(d.IntN(10))
		case 5:
			c := &l.Closed[d.IntN(len(l.Closed))]
			c.Source, c.Session = some(), 70000+uint32(d.IntN(10))
		case 6:
			l.Closed[d.IntN(len(l.Closed))].Total = some()
		case 7:
			l.In[d.IntN(len(l.In))].State = some()
		}
		want := api.OK
		if !may(l) {
			want = api.ErrLtp
			wrong++
		}
		if e := ltp.Check(l); e != want {
			t.Fatalf("Check of %+v: %d, want %d", l, e, want)
		}
	}
	if wrong < 5000 || wrong > 18000 {
		t.Errorf("%d of 20000 may not be", wrong)
	}
}

// others are what makes sessions other ones, by one field each.
func others() map[string]func(l *api.Ltp) {
	return map[string]func(l *api.Ltp){
		"Node": func(l *api.Ltp) { l.Node++ }, "Wait": func(l *api.Ltp) { l.Rules.Wait++ }, "Tries": func(l *api.Ltp) { l.Rules.Tries++ }, "Life": func(l *api.Ltp) { l.Rules.Life++ }, "Next": func(l *api.Ltp) { l.Next++ },
		"no Out": func(l *api.Ltp) { l.Out = nil }, "less Out": func(l *api.Ltp) { l.Out = l.Out[:2] }, "without the first of Out": func(l *api.Ltp) { l.Out = l.Out[1:] }, "more Out": func(l *api.Ltp) { l.Out = append(l.Out, api.Outward{}) }, "Out in another order": func(l *api.Ltp) { l.Out[0], l.Out[2] = l.Out[2], l.Out[0] },
		"To": func(l *api.Ltp) { l.Out[0].To++ }, "To of the last one": func(l *api.Ltp) { l.Out[2].To++ }, "To exchanged": func(l *api.Ltp) { l.Out[0].To, l.Out[1].To = l.Out[1].To, l.Out[0].To },
		"Source": func(l *api.Ltp) { l.Out[0].Sending.Source++ }, "Session": func(l *api.Ltp) { l.Out[1].Sending.Session++ }, "Block": func(l *api.Ltp) { l.Out[1].Sending.Block[9]++ }, "a shorter Block": func(l *api.Ltp) { l.Out[1].Sending.Block = l.Out[1].Sending.Block[:9] }, "Wait of one": func(l *api.Ltp) { l.Out[2].Sending.Wait++ }, "Tries of one": func(l *api.Ltp) { l.Out[2].Sending.Tries++ },
		"State": func(l *api.Ltp) { l.Out[0].Sending.State++ }, "Got": func(l *api.Ltp) { l.Out[0].Sending.Got[2].N++ }, "no Got": func(l *api.Ltp) { l.Out[0].Sending.Got = nil }, "Last": func(l *api.Ltp) { l.Out[0].Sending.Last.Serial++ }, "Last's Data": func(l *api.Ltp) { l.Out[0].Sending.Last.Data[3]++ }, "Due": func(l *api.Ltp) { l.Out[0].Sending.Due++ }, "Asked": func(l *api.Ltp) { l.Out[0].Sending.Asked++ }, "Seen": func(l *api.Ltp) { l.Out[0].Sending.Seen[1]++ }, "Reason": func(l *api.Ltp) { l.Out[0].Sending.Reason++ },
		"no In": func(l *api.Ltp) { l.In = nil }, "less In": func(l *api.Ltp) { l.In = l.In[:2] }, "without the first of In": func(l *api.Ltp) { l.In = l.In[1:] }, "more In": func(l *api.Ltp) { l.In = append(l.In, api.Taking{}) }, "In in another order": func(l *api.Ltp) { l.In[0], l.In[1] = l.In[1], l.In[0] },
		"Source of In": func(l *api.Ltp) { l.In[0].Source++ }, "Session of In": func(l *api.Ltp) { l.In[1].Session++ }, "Total of In": func(l *api.Ltp) { l.In[2].Total++ }, "Bytes": func(l *api.Ltp) { l.In[2].Bytes[249]++ }, "less Bytes": func(l *api.Ltp) { l.In[2].Bytes = l.In[2].Bytes[:249] }, "Got of In": func(l *api.Ltp) { l.In[2].Got[0].N-- }, "Serial of In": func(l *api.Ltp) { l.In[0].Serial++ }, "State of In": func(l *api.Ltp) { l.In[0].State++ }, "Life of In": func(l *api.Ltp) { l.In[0].Life++ }, "Due of In": func(l *api.Ltp) { l.In[1].Due++ },
		"no Closed": func(l *api.Ltp) { l.Closed = nil }, "less Closed": func(l *api.Ltp) { l.Closed = l.Closed[:3] }, "without the first of Closed": func(l *api.Ltp) { l.Closed = l.Closed[1:] }, "more Closed": func(l *api.Ltp) { l.Closed = append(l.Closed, api.Closed{}) }, "Closed in another order": func(l *api.Ltp) { l.Closed[0], l.Closed[1] = l.Closed[1], l.Closed[0] },
		"Source of Closed": func(l *api.Ltp) { l.Closed[0].Source++ }, "Session of Closed": func(l *api.Ltp) { l.Closed[1].Session++ }, "Total of Closed": func(l *api.Ltp) { l.Closed[2].Total++ }, "Done": func(l *api.Ltp) { l.Closed[0].Done = false }, "Done of another one": func(l *api.Ltp) { l.Closed[1].Done = true }, "Serial": func(l *api.Ltp) { l.Closed[3].Serial++ }, "Serial round": func(l *api.Ltp) { l.Closed[2].Serial++ },
		"Wait and Life exchanged": func(l *api.Ltp) { l.Rules.Wait, l.Rules.Life = l.Rules.Life, l.Rules.Wait }, "Node and Wait exchanged": func(l *api.Ltp) { l.Node, l.Rules.Wait = l.Rules.Wait, l.Node },
	}
}

// P16.5: Same of two that are the same, and with one field changed, both ways; whether they may be is not asked.
func TestSame(t *testing.T) {
	for what, f := range others() {
		for _, a := range []api.Ltp{unlike(), changed(unlike(), func(l *api.Ltp) { l.Node = 9 }), full()} {
			b := changed(a, f)
			if ltp.Same(a, b) || ltp.Same(b, a) {
				t.Errorf("%s: the same", what)
			}
			if !ltp.Same(a, deep(a)) || !ltp.Same(b, deep(b)) {
				t.Errorf("%s: not the same as itself", what)
			}
		}
	}
	for what, l := range wrongLtps() {
		if !ltp.Same(l, deep(l)) || ltp.Same(l, unlike()) {
			t.Errorf("%s", what)
		}
	}
	for what, l := range rightLtps() {
		if !ltp.Same(l, deep(l)) {
			t.Errorf("%s", what)
		}
	}
}

// P16.5: a field that is another one by whichever bit.
func TestSameOfEachBit(t *testing.T) {
	for bit := range 64 {
		for i, f := range []func(l *api.Ltp){
			func(l *api.Ltp) { l.Node ^= 1 << bit }, func(l *api.Ltp) { l.Rules.Wait ^= 1 << bit }, func(l *api.Ltp) { l.Rules.Tries ^= 1 << bit }, func(l *api.Ltp) { l.Rules.Life ^= 1 << bit }, func(l *api.Ltp) { l.Next ^= 1 << (bit % 32) },
			func(l *api.Ltp) { l.Out[bit%3].To ^= 1 << bit }, func(l *api.Ltp) { l.Out[bit%3].Sending.Due ^= 1 << bit }, func(l *api.Ltp) { l.Out[bit%3].Sending.Session ^= 1 << (bit % 32) }, func(l *api.Ltp) { l.In[bit%3].Due ^= 1 << bit }, func(l *api.Ltp) { l.In[bit%3].Serial ^= 1 << (bit % 32) },
			func(l *api.Ltp) { l.Closed[bit%4].Source ^= 1 << bit }, func(l *api.Ltp) { l.Closed[bit%4].Total ^= 1 << bit }, func(l *api.Ltp) { l.Closed[bit%4].Session ^= 1 << (bit % 32) }, func(l *api.Ltp) { l.Closed[bit%4].Serial ^= 1 << (bit % 32) },
		} {
			if b := changed(unlike(), f); ltp.Same(unlike(), b) || ltp.Same(b, unlike()) {
				t.Errorf("the field %d by the bit %d: the same", i, bit)
			}
		}
	}
}

// P16.5, R3: nil and empty lists are one; the room behind a list's end does not count.
func TestSameOfNilAndEmpty(t *testing.T) {
	empty := api.Ltp{Out: []api.Outward{}, In: []api.Taking{}, Closed: []api.Closed{}}
	if !ltp.Same(empty, api.Ltp{}) || !ltp.Same(api.Ltp{}, empty) {
		t.Error("nil and empty are not one")
	}
	inner := api.Ltp{Out: []api.Outward{{Sending: api.Sending{Start: api.Start{Block: []byte{}}, Got: []api.Claim{}, Seen: []uint32{}}}}, In: []api.Taking{{Bytes: []byte{}, Got: []api.Claim{}}}}
	if !ltp.Same(inner, api.Ltp{Out: make([]api.Outward, 1), In: make([]api.Taking, 1)}) {
		t.Error("nil and empty are not one, in sessions")
	}
	a, b := full(), unlike()
	a.Out, a.In, a.Closed = a.Out[:3], a.In[:3], a.Closed[:4]
	if !ltp.Same(a, b) || !ltp.Same(b, a) || !slices.Equal(a.Closed, b.Closed) {
		t.Error("the room behind the end counts")
	}
}
