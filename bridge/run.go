package bridge

import "bridge/api"

// ahead: what others answers, by copy, because the other chain goes on with its list while this one reads.
func (b *Bridge) ahead(c int) []header {
	others := b.others(c)
	l := make([]header, len(others))
	copy(l, others)
	return l
}

// start: the steps are done on chain c from now on; the channel gives what comes of each, in order, and is closed behind the last.
func (b *Bridge) start(c int, steps []api.Step, others []header) <-chan api.Errno {
	out := make(chan api.Errno)
	go func() {
		defer close(out)
		for _, s := range steps {
			_, e := b.step(c, s, others)
			out <- e
		}
	}()
	return out
}

// gather: each channel has its own list, so that it is of no matter which comes first. Both are empty and closed when it answers, so nobody is at work any more.
func gather(one, two <-chan api.Errno) (x, y []api.Errno) {
	for one != nil || two != nil {
		select {
		case e, more := <-one:
			if more {
				x = append(x, e)
			} else {
				one = nil // never ready again
			}
		case e, more := <-two:
			if more {
				y = append(y, e)
			} else {
				two = nil
			}
		}
	}
	return x, y
}
