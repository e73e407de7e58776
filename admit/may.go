package admit

import (
	"slices"

	"coxswain/api"
	"coxswain/prio"
	"coxswain/rank"
)

// The bounds for which package api has no names.
const (
	leastFrames = 8
	mostGap     = 1000
	mostPeriod  = 1000000
)

// script stands for a line in a task that no line releases.
const script = -1

// config is a configuration as its parts are held against it.
type config api.Config

// line is the number of an interrupt line.
type line int

// May answers whether c may be declared.
func May(c api.Config) bool {
	_, wrong := rank.New(c.Mutexes)
	return wrong == api.OK &&
		within(c.Frames, leastFrames, api.MaxFrames) && within(c.Dog, 1, api.Most) &&
		each(c.Gaps, api.MaxLines, isGap) &&
		each(c.Best, api.MaxBest, isEffort) &&
		each(c.Tasks, api.MaxTasks, config(c).isTask) && apart(c.Tasks)
}

// isTask answers whether c may have t; whether another task has its line is not looked at.
func (c config) isTask(t api.Task) bool {
	return t.Class != api.Best && prio.May(base(t)) && inTime(t) &&
		within(t.Line, script, len(c.Gaps)-1) &&
		each(t.Uses, api.MaxMutexes, c.hasMutex) && isProgram(t.Prog)
}

// hasMutex answers whether m is the number of a mutex.
func (c config) hasMutex(m int) bool {
	return within(m, 0, len(c.Mutexes)-1)
}

// releases answers whether t is released by l.
func (l line) releases(t api.Task) bool {
	return t.Line != script && t.Line == int(l)
}

// apart answers whether no two tasks have one line.
func apart(tasks []api.Task) bool {
	for i, t := range tasks {
		if slices.ContainsFunc(tasks[:i], line(t.Line).releases) {
			return false
		}
	}
	return true
}

// inTime answers whether t's job has room up to its deadline, and that up to the next one.
func inTime(t api.Task) bool {
	return within(t.Period, 1, mostPeriod) && within(t.Deadline, 1, t.Period) && within(t.Budget, 1, t.Deadline)
}

func isGap(gap int) bool {
	return within(gap, 1, mostGap)
}

func isEffort(e api.Effort) bool {
	return prio.May(api.Prio{Class: api.Best, Level: e.Level}) && isProgram(e.Prog)
}

// isProgram looks at the count alone: a step that may not be is one that does nothing.
func isProgram(steps []api.Op) bool {
	return len(steps) <= api.MaxOps
}

// each answers whether list has at most so many, each of which may be.
func each[T any](list []T, most int, may func(x T) bool) bool {
	if len(list) > most {
		return false
	}
	for _, x := range list {
		if !may(x) {
			return false
		}
	}
	return true
}

// within answers whether x is from low to high.
func within(x int, low int, high int) bool {
	return low <= x && x <= high
}
