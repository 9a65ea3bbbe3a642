package basin

// groups of numbers from 0 on: of each one a lesser one of its group, or itself, if it is the least.
type groups []int

// apart: so many numbers, each of them a group of its own.
func apart(many int) groups {
	g := make(groups, many)
	for n := range g {
		g[n] = n
	}
	return g
}

// first number of a group. What is passed on the way is led nearer to it, so that no way stays long.
func (g groups) first(n int) int {
	for g[n] != n {
		g[n] = g[g[n]]
		n = g[n]
	}
	return n
}

// join the groups of two numbers.
func (g groups) join(m, n int) {
	m, n = g.first(m), g.first(n)
	g[max(m, n)] = min(m, n)
}

// lists of those of the groups that have members: these must rise, and all of a group be among them. The first of a group comes ahead of the others.
func (g groups) lists(members []int) [][]int {
	var out [][]int
	place := make([]int, len(g))
	for _, n := range members {
		first := g.first(n)
		if first == n {
			place[n] = len(out)
			out = append(out, nil)
		}
		out[place[first]] = append(out[place[first]], n)
	}
	return out
}
