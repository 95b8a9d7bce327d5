package leg

import (
	"oche/api"
	"oche/terms"
)

// noDart is the Dart of a fault that is not one of a single dart.
const noDart = -1

// visit is a visit while it is thrown, and the laws by which it counts.
type visit struct {
	api.LegThrow
	laws api.Count
}

// thrown returns what beds come to from a valid stand, or their error and the number of the bed with which it was found.
func thrown(c api.Count, in bool, left int, beds []api.Bed) (t api.LegThrow, dart int, e api.Errno) {
	v := visit{api.LegThrow{Left: left, In: in}, c}
	for i, bed := range beds {
		if v.ended() {
			return api.LegThrow{}, i, api.ErrMore
		}
		hit := terms.Hit{Bed: bed}
		if !hit.Valid() {
			return api.LegThrow{}, i, api.ErrArg
		}
		v.take(hit)
	}
	if !v.ended() {
		return api.LegThrow{}, noDart, api.ErrShort
	}
	if v.Bust {
		v.Left, v.In = left, in
	}
	v.Score = left - v.Left
	return v.LegThrow, noDart, api.OK
}

// ended reports whether the visit is at its end.
func (v *visit) ended() bool { return v.Won || v.Bust || v.Darts == api.Darts }

// take carries out a dart, but does not take back what was scored before a dart that is bust.
func (v *visit) take(h terms.Hit) {
	s, bust := h.From(api.HeardStand{Left: v.Left, In: v.In}, v.laws)
	v.Left, v.In = s.Left, s.In
	v.Bust, v.Won = bust, s.Left == 0
	v.Darts++
}
