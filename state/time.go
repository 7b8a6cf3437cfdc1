package state

import "holdfast/api"

// IsTime tells whether a number is a time.
func IsTime(now int) bool {
	return now >= 0 && now <= api.MaxTime
}

// TimeError is that of a time which is handed in where another one was noted.
func TimeError(now, noted int) api.Errno {
	if !IsTime(now) {
		return api.ErrRange
	}
	if now < noted {
		return api.ErrBack
	}
	return api.OK
}
