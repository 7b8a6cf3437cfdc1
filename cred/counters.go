package cred

import "holdfast/api"

// counters are what keeps a password from being guessed: how many tries were taken, and when a lockout ends (0: there is none).
type counters struct {
	tries, until int
}

// take takes a try ahead of what is compared, so that a try that is cut off counts too.
func (c *counters) take(now int) api.Errno {
	if c.until != 0 {
		if now < c.until {
			return api.ErrLocked
		}
		*c = counters{}
	}
	if c.tries == api.MaxTries {
		c.lock(now)
		return api.ErrLocked
	}
	c.tries++
	return api.OK
}

// settle is the answer to what was compared: right, or wrong.
func (c *counters) settle(right bool, now int) api.Errno {
	if right {
		*c = counters{}
		return api.OK
	}
	if c.tries >= api.MaxTries {
		c.lock(now)
	}
	return api.ErrWrong
}

func (c *counters) lock(now int) {
	c.until = now + api.Lockout
}
