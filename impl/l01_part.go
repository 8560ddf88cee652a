package impl

const One = 65536
const MaxTime = 1000000000

const maxEnd = 1000000000
const minReach = -2 * One
const maxReach = 3 * One

// parts is a type of its own so that the shares of a way are not taken for the way itself.
// It reaches past 0 and One as well, since a curve may swing over its ends.
type parts int64

func (p parts) ok() bool { return within(int64(p), 0, One) }

func (p parts) reaches() bool { return within(int64(p), minReach, maxReach) }

func (p parts) other() parts { return One - p }

func (p parts) share(way int64) int64 { return divDown(way*int64(p), One) }

func within(n int64, low int64, high int64) bool { return low <= n && n <= high }

// divDown wants by above 0. Go's own division goes towards 0, which is up for what is below 0.
func divDown(n int64, by int64) int64 {
	if n%by < 0 {
		return n/by - 1
	}
	return n / by
}

func whereOk(p int64, ask func(parts) parts) int64 {
	if !parts(p).ok() {
		return -1
	}
	return int64(ask(parts(p)))
}

func towards(a int64, b int64, share func(int64) int64) int64 { return a + share(b-a) }

func PartOk(p int64) bool { return parts(p).ok() }

func PartOf(n int64, all int64) int64 {
	if !within(all, 1, MaxTime) || !within(n, 0, all) {
		return -1
	}
	return divDown(One*n, all)
}

func Between(a int64, b int64, p int64) int64 {
	if !within(a, -maxEnd, maxEnd) || !within(b, -maxEnd, maxEnd) || !parts(p).reaches() {
		return 0
	}
	return towards(a, b, parts(p).share)
}

func Other(p int64) int64 { return whereOk(p, parts.other) }
