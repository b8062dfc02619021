package swim_test

import (
	"math/rand"
	"slices"
	"testing"

	"chartulary/api"
	"chartulary/lot"
	"chartulary/swim"
)

// flight is a note, and the time at which it comes.
type flight struct {
	api.Note
	due int
}

// cluster is swimmers that tick one behind the other, and the notes between them. Who is down is nil.
type cluster struct {
	swims         []*swim.Swim
	ping, suspect int
	boots, now    int
	air           []flight
	lots          *lot.Lots
	// late tells how many ticks a note takes; below 0 it is lost.
	late func() int
}

// clusterOf tells a cluster of so many nodes that are up, in which each note comes at once.
func clusterOf(t *testing.T, nodes, ping, suspect int, l ...int) *cluster {
	t.Helper()
	c := &cluster{swims: make([]*swim.Swim, nodes), ping: ping, suspect: suspect, lots: lots(t, l...), late: func() int { return 0 }}
	for node := 1; node <= nodes; node++ {
		c.boot(t, node)
	}
	return c
}

// boot lets a node begin anew.
func (c *cluster) boot(t *testing.T, node int) {
	t.Helper()
	c.boots++
	s, e := swim.New(node, len(c.swims), c.boots, c.ping, c.suspect, c.lots)
	if e != api.OK {
		t.Fatalf("boot %d: %v", node, e)
	}
	c.swims[node-1] = s
}

// crash lets a node be down.
func (c *cluster) crash(node int) { c.swims[node-1] = nil }

// send puts notes in the air.
func (c *cluster) send(l []api.Note) {
	for _, x := range l {
		if late := c.late(); late >= 0 {
			c.air = append(c.air, flight{x, c.now + late})
		}
	}
}

// deliver lets all notes come that are due, and what is sent for them, and so on.
func (c *cluster) deliver() {
	for i := 0; i < len(c.air); {
		x := c.air[i]
		if x.due > c.now {
			i++
			continue
		}
		c.air = slices.Delete(c.air, i, i+1)
		if s := c.swims[x.To-1]; s != nil {
			c.send(s.Take(x.Note, c.lots))
		}
		i = 0
	}
}

// run lets so many ticks go by at each node that is up.
func (c *cluster) run(n int) {
	for range n {
		c.now++
		for _, s := range c.swims {
			c.send(s.Tick(c.lots))
			c.deliver()
		}
	}
}

// enough is how many ticks a calm cluster takes at most, as the chapter of calm reckons those of swimmers.
func (c *cluster) enough() int {
	return 40*c.ping*(len(c.swims)+2) + 4*c.suspect
}

// agrees asks that all nodes that are up hold one view, in which they are Alive, and no other one is live.
func (c *cluster) agrees(t *testing.T) {
	t.Helper()
	var first []api.Member
	for i, s := range c.swims {
		if s == nil {
			continue
		}
		v := s.View()
		if first == nil {
			first = v
		}
		if !slices.Equal(v, first) {
			t.Fatalf("of %d, ping %d: %d views %v, the first %v", len(c.swims), c.ping, i+1, v, first)
		}
		for j, m := range v {
			if up := c.swims[j] != nil; up && m.Status != api.Alive || !up && m.Status < api.Dead {
				t.Fatalf("of %d, ping %d: %d views %v, up is %v", len(c.swims), c.ping, i+1, m, up)
			}
		}
	}
}

// fresh asks that nobody was ever suspected.
func (c *cluster) fresh(t *testing.T) {
	t.Helper()
	for i, s := range c.swims {
		for _, m := range s.View() {
			if m != alive(m.ID, 0) {
				t.Fatalf("of %d, ping %d: %d views %v", len(c.swims), c.ping, i+1, m)
			}
		}
	}
}

// some tells so many lots by chance.
func some(r *rand.Rand, n int) []int {
	l := make([]int, n)
	for i := range l {
		l[i] = r.Intn(1 << 20)
	}
	return l
}

// P16.6: where all are up, and each note comes within half a ping, nobody is suspected, however short suspect is.
func TestNobodyIsSuspected(t *testing.T) {
	r := rand.New(rand.NewSource(166))
	for _, nodes := range []int{1, 2, 3, 4, 7, 8, 16, 64} {
		for _, ping := range []int{1, 2, 3, 6} {
			for _, late := range []func() int{
				func() int { return 0 }, func() int { return ping / 2 }, func() int { return r.Intn(ping/2 + 1) },
			} {
				c := clusterOf(t, nodes, ping, 1, some(r, 500)...)
				c.late = late
				for range 4 {
					c.run(10 * ping)
					c.fresh(t)
				}
			}
		}
	}
}

// P16.6: a node that is down is Dead at all others in time, and views are the same; one that comes back is Alive at all.
func TestDownIsDead(t *testing.T) {
	r := rand.New(rand.NewSource(167))
	for _, nodes := range []int{2, 3, 4, 5, 9} {
		for _, ping := range []int{1, 2, 5} {
			for _, suspect := range []int{1, 7, 40} {
				c := clusterOf(t, nodes, ping, suspect, some(r, 600)...)
				c.late = func() int { return r.Intn(ping/2 + 1) }
				c.run(r.Intn(20 * ping))
				for range 2 {
					node := 1 + r.Intn(nodes)
					c.crash(node)
					c.run(c.enough())
					c.agrees(t)
					c.boot(t, node)
					c.run(c.enough())
					c.agrees(t)
				}
				c.crash(1)
				c.crash(nodes)
				c.run(c.enough())
				c.agrees(t)
			}
		}
	}
}

// P16.6: likewise in a great cluster.
func TestManyDown(t *testing.T) {
	c := clusterOf(t, 64, 1, 30)
	c.run(100)
	for node := 2; node <= 64; node += 6 {
		c.crash(node)
	}
	c.run(c.enough())
	c.agrees(t)
}

// P16.6: a node that is down so shortly that nobody suspects it says again what it said of itself in its earlier boot.
func TestBackSoon(t *testing.T) {
	for _, nodes := range []int{2, 3, 6} {
		c := clusterOf(t, nodes, 2, 5)
		for n := range 3 {
			c.swims[0].Take(ping(nodes, 1, by(nodes, 1, 1), dead(1, 6+10*n)), nil)
			c.run(c.enough())
			c.agrees(t)
			c.crash(1)
			c.boot(t, 1)
			c.run(c.enough())
			c.agrees(t)
			for _, s := range c.swims {
				if m := s.View()[0]; m != alive(1, 7+10*n) {
					t.Errorf("of %d: %v", nodes, m)
				}
			}
		}
	}
}

// P16.6: whatever was lost, late or heard wrongly: views are the same when each note comes again.
func TestCalmBehindStorms(t *testing.T) {
	r := rand.New(rand.NewSource(168))
	for range 60 {
		nodes := 2 + r.Intn(9)
		ping := 1 + r.Intn(3)
		c := clusterOf(t, nodes, ping, 1+r.Intn(20), some(r, r.Intn(1000))...)
		lost := 1 + r.Intn(9)
		c.late = func() int {
			if r.Intn(10) < lost {
				return -1
			}
			return r.Intn(5 * ping)
		}
		for range 30 {
			c.run(r.Intn(8 * ping))
			switch node := 1 + r.Intn(nodes); {
			case c.swims[node-1] == nil:
				c.boot(t, node)
			case r.Intn(3) == 0:
				c.crash(node)
			}
		}
		if !slices.ContainsFunc(c.swims, func(s *swim.Swim) bool { return s != nil }) {
			c.boot(t, 1)
		}
		c.late = func() int { return 0 }
		c.run(c.enough())
		c.agrees(t)
	}
}

// P16.6: two halves that could not hear each other hold each other for Dead, and find each other again.
func TestTwoHalves(t *testing.T) {
	for _, nodes := range []int{2, 3, 5, 8} {
		c := clusterOf(t, nodes, 1, 3)
		half := nodes / 2
		for range c.enough() {
			c.now++
			for _, s := range c.swims {
				for l := s.Tick(nil); len(l) > 0; {
					x := l[0]
					l = l[1:]
					if (x.From <= half) == (x.To <= half) {
						l = append(l, c.swims[x.To-1].Take(x, nil)...)
					}
				}
			}
		}
		for i, s := range c.swims {
			for _, m := range s.View() {
				if (m.ID <= half) == (i < half) != (m.Status == api.Alive) || m.Status == api.Suspect {
					t.Errorf("of %d: %d views %v", nodes, i+1, m)
				}
			}
		}
		c.run(c.enough())
		c.agrees(t)
	}
}

// P16.4: who leaves is Left at all others, and nobody takes that for Dead.
func TestLeftIsLeft(t *testing.T) {
	for _, nodes := range []int{2, 3, 9} {
		c := clusterOf(t, nodes, 2, 3)
		c.run(7)
		l, e := c.swims[1].Leave()
		if e != api.OK || len(l) != nodes-1 {
			t.Errorf("leave: %v, %+v", e, l)
		}
		c.send(l)
		c.run(c.enough())
		for _, s := range c.swims {
			for _, m := range s.View() {
				if m.ID == 2 && m != left(2, 0) || m.ID != 2 && m.Status != api.Alive {
					t.Errorf("of %d: %v", nodes, m)
				}
			}
		}
	}
}
