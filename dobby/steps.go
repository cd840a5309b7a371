package dobby

import "tapestry/api"

// The words of a disk.
const (
	wovenWord = 0 // how many picks are woven
	begunWord = 1 // the number, from 1 on, of the pick that was last to be beaten; 0, once it is known that it was not
	diskWords = 2
)

// wovenOn is how many picks of so many are woven, by the disk.
func wovenOn(disk api.Disk, picks int) int {
	w := disk.Get(wovenWord)
	if w < 0 || w > int64(picks) {
		return 0
	}
	return int(w)
}

// firstState is the state in which a loom begins, by the disk.
func firstState(disk api.Disk, woven, picks int) int {
	switch {
	case woven == picks:
		return api.LoomDone
	case disk.Get(begunWord) == int64(woven)+1:
		return api.LoomDoubt
	}
	return api.LoomIdle
}

func isEvent(event int) bool { return event >= api.EventStart && event <= api.EventUnseen }

// isAmidPick tells whether a loom in this state has begun a pick that is not woven.
func isAmidPick(state int) bool { return state >= api.LoomLifting && state <= api.LoomBeating }

// mayCome tells whether an event may come in a state.
func mayCome(event, state int) bool {
	switch event {
	case api.EventStart:
		return state == api.LoomIdle
	case api.EventShed:
		return state == api.LoomLifting
	case api.EventThrough, api.EventBreak:
		return state == api.LoomThrowing
	case api.EventMend:
		return state == api.LoomBroken
	case api.EventBeaten:
		return state == api.LoomBeating
	case api.EventStop:
		return isAmidPick(state)
	case api.EventSeen, api.EventUnseen:
		return state == api.LoomDoubt
	}
	return false
}

// endPick counts the pick that the loom is at, or in doubt about, as woven: the next state, and what the loom does.
func (l *Loom) endPick() (next, does int) {
	halts := l.stop || l.state == api.LoomDoubt
	l.stop = false
	l.woven++
	switch {
	case l.woven == l.cloth.High:
		return api.LoomDone, api.DoHalt
	case halts:
		return api.LoomIdle, api.DoHalt
	}
	return api.LoomLifting, api.DoLift
}
