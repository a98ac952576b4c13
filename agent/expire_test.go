package agent_test

import (
	"fmt"
	"testing"

	"heliograph/agent"
	"heliograph/api"
)

// asksExpire holds an Expire against what is told once more.
func asksExpire(t *testing.T, what string, a api.Agent, now int) answer {
	t.Helper()
	got := of(agent.Expire(a, now))
	wants(t, fmt.Sprint(what, ": Expire at ", now), got, toldExpire(a, now))
	return got
}

// P19.4: none, some and all of Parts, at the moment at which they expire, one ahead of it and one behind it.
func TestExpire(t *testing.T) {
	for what, a := range fine() {
		moments := []int{0, 1, maxTick - 1, maxTick}
		for _, b := range a.Parts {
			end := b.Created + b.Lifetime
			moments = append(moments, b.Created, end-1, end, end+1)
		}
		for _, now := range moments {
			asksExpire(t, what, a, now)
		}
	}
	a := busy() // their ends are 1350, 1351 and 1340
	for now, left := range map[int]int{0: 5, 1339: 5, 1340: 4, 1341: 4, 1349: 4, 1350: 2, 1351: 0, 1352: 0, maxTick: 0} {
		got := asksExpire(t, "busy", a, now)
		if got.e != api.OK || len(got.a.Parts) != left || len(got.a.Seen) != len(a.Seen) {
			t.Errorf("at %d: %d of Parts are left", now, len(got.a.Parts))
		}
	}
}

// P19.4: those that expire behind the last moment never do.
func TestExpireNever(t *testing.T) {
	at := func(created, lifetime int) api.Agent {
		return parted(first(2), changed(part(whole(3, 4, 9), 1, 2), func(b *api.Bundle) { b.Created, b.Lifetime = created, lifetime }))
	}
	for _, c := range []struct{ created, lifetime, left int }{{0, maxTick, 0}, {maxTick - 1, 1, 0}, {1, maxTick, 1}, {maxTick, 1, 1}, {maxTick, maxTick, 1}} {
		if got := asksExpire(t, "late", at(c.created, c.lifetime), maxTick); len(got.a.Parts) != c.left {
			t.Errorf("from %d on for %d: %d are left", c.created, c.lifetime, len(got.a.Parts))
		}
	}
}

// P19.4: a now that is no moment.
func TestExpireAtNoMoment(t *testing.T) {
	for _, a := range []api.Agent{first(1), busy(), full()} {
		for _, now := range append(far(), -1, -2, maxTick+1, maxTick+2) {
			want := api.ErrArg
			if now >= 0 && now <= maxTick {
				want = api.OK
			}
			if got := asksExpire(t, "no moment", a, now); got.e != want {
				t.Errorf("at %d: error %d", now, got.e)
			}
		}
	}
}
