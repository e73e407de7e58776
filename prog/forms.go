package prog

import "coxswain/api"

// The bounds for which package api has no names.
const (
	mostTicks = 1000 // of work, of sleep, of a wait
	mostPath  = 100  // bytes of a path's text
	mostCode  = 255  // that a process exits with
	allFlags  = api.FlagMake | api.FlagFresh | api.FlagEnd
)

// form answers x with nothing but what its kind names, and whether this lies within its bounds.
type form[T any] func(x T) (T, bool)

// stepForm answers the form of the steps of that kind.
func stepForm(kind int) form[api.Op] {
	switch kind {
	case api.OpNop, api.OpDone, api.OpMark:
		return bareStep
	case api.OpWork, api.OpSleep:
		return numberStep(1, mostTicks)
	case api.OpLock, api.OpUnlock:
		return numberStep(0, api.MaxMutexes-1)
	case api.OpJump:
		return numberStep(0, api.MaxOps-1)
	case api.OpWait:
		return waitStep
	case api.OpSignal:
		return numberStep(0, api.MaxConds-1)
	case api.OpCall:
		return callStep
	}
	return strange
}

func bareStep(o api.Op) (api.Op, bool) {
	return api.Op{Kind: o.Kind}, true
}

func numberStep(low int, high int) form[api.Op] {
	return func(o api.Op) (api.Op, bool) {
		return api.Op{Kind: o.Kind, A: o.A}, within(o.A, low, high)
	}
}

func waitStep(o api.Op) (api.Op, bool) {
	ok := within(o.A, 0, api.MaxConds-1) && within(o.B, 0, api.MaxMutexes-1) && within(o.C, 0, mostTicks)
	return api.Op{Kind: o.Kind, A: o.A, B: o.B, C: o.C}, ok
}

func callStep(o api.Op) (api.Op, bool) {
	return api.Op{Kind: o.Kind, Call: o.Call}, MayCall(o.Call)
}

// callForm answers the form of the calls of that Sys.
func callForm(sys int) form[api.Call] {
	switch sys {
	case api.SysOpen:
		return openCall
	case api.SysClose, api.SysDup:
		return numberCall(api.MaxFds - 1)
	case api.SysRead, api.SysSeek:
		return spanCall
	case api.SysWrite:
		return writeCall
	case api.SysLink:
		return linkCall
	case api.SysUnlink, api.SysMkdir, api.SysRmdir, api.SysStat, api.SysList:
		return pathCall
	case api.SysPipe, api.SysChild, api.SysPid:
		return bareCall
	case api.SysFork:
		return numberCall(api.MaxOps - 1)
	case api.SysExit:
		return numberCall(mostCode)
	}
	return strange
}

func openCall(c api.Call) (api.Call, bool) {
	return api.Call{Sys: c.Sys, A: c.A, S: c.S}, within(c.A, 0, allFlags) && isPath(c.S)
}

func numberCall(high int) form[api.Call] {
	return func(c api.Call) (api.Call, bool) {
		return api.Call{Sys: c.Sys, A: c.A}, within(c.A, 0, high)
	}
}

func spanCall(c api.Call) (api.Call, bool) {
	return api.Call{Sys: c.Sys, A: c.A, B: c.B}, isDescriptor(c.A) && within(c.B, 0, api.MaxBytes)
}

func writeCall(c api.Call) (api.Call, bool) {
	return api.Call{Sys: c.Sys, A: c.A, S: c.S}, isDescriptor(c.A) && len(c.S) <= api.MaxBytes
}

func linkCall(c api.Call) (api.Call, bool) {
	return api.Call{Sys: c.Sys, S: c.S, T: c.T}, isPath(c.S) && isPath(c.T)
}

func pathCall(c api.Call) (api.Call, bool) {
	return api.Call{Sys: c.Sys, S: c.S}, isPath(c.S)
}

func bareCall(c api.Call) (api.Call, bool) {
	return api.Call{Sys: c.Sys}, true
}

// strange is the form of what there is not: nothing has it.
func strange[T any](x T) (T, bool) {
	return x, false
}

func isDescriptor(x int) bool {
	return within(x, 0, api.MaxFds-1)
}

func isPath(text string) bool {
	return len(text) <= mostPath
}

// within answers whether x is from low to high.
func within(x int, low int, high int) bool {
	return low <= x && x <= high
}
