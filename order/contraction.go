package order

import (
	"viaduct/api"
	"viaduct/overlay"
	"viaduct/shorts"
)

// contraction is a graph whose nodes are contracted one by one.
type contraction struct {
	graph *overlay.Overlay
	opts  api.Options
	links int // how many the contracted nodes have got
}

// contract: v's arcs are its links, and it is contracted.
func (c *contraction) contract(v int) error {
	in, out := len(c.graph.In(v)), len(c.graph.Out(v))
	c.links += in + out
	if err := c.checkRoom(v, in, out); err != nil {
		return err
	}
	if _, err := shorts.Contract(c.graph, v, c.opts); err != nil {
		return err
	}
	if c.links+c.graph.Arcs() > api.MaxLinks {
		return api.ErrLimit
	}
	return nil
}

// checkRoom asks how many shortcuts v needs, if they may be so many that their list can't be held. They all come to be arcs, beside the links that there are then.
func (c *contraction) checkRoom(v, in, out int) error {
	if in*out <= api.MaxLinks {
		return nil
	}
	diff, err := shorts.Diff(c.graph, v, c.opts)
	if err != nil {
		return err
	}
	if needed := diff + in + out; c.links+needed > api.MaxLinks {
		return api.ErrLimit
	}
	return nil
}
