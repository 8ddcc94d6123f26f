package check

import "theodolite/api"

// returns tells whether a list of statements does. Those that have to wait in a list, not in calls, as there is no bound to how deep one stands in another.
func returns(l []api.Stmt) bool {
	waiting := [][]api.Stmt{l}
	for len(waiting) > 0 {
		l := waiting[len(waiting)-1]
		waiting = waiting[:len(waiting)-1]
		if len(l) == 0 {
			return false
		}
		switch s := &l[len(l)-1]; s.Kind {
		case api.StReturn:
		case api.StIf:
			waiting = append(waiting, s.Body, s.Else)
		default:
			return false
		}
	}
	return true
}
