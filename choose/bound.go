package choose

import "passim/api"

// bound returns the bound of a price.
func (c Case) bound(p, q int) int {
	sum := -c.Room * p
	for i := range c.Items {
		least := 0
		for k := range c.Items[i] {
			o := c.option(i, k)
			if value := o[0]*q + o[1]*p; k == 0 || value < least {
				least = value
			}
		}
		sum += least
	}
	return sum
}

// possible reports whether there is such a price.
func possible(p, q int) bool { return p >= 0 && p <= mostPrice && q >= 1 && q <= mostPrice }

// Bound returns the certificate of a price.
func Bound(c Case, p, q int) (Cert, api.Errno) {
	if e := Valid(c); e != api.OK {
		return Cert{}, e
	}
	if !possible(p, q) {
		return Cert{}, api.ErrRange
	}
	return Cert{p, q, c.bound(p, q)}, api.OK
}

// reduce returns a fraction without common divisors.
func reduce(p, q int) (int, int) {
	a, b := p, q
	for b != 0 {
		a, b = b, a%b
	}
	return p / a, q / a
}

// Dual returns the certificate of the best price. The bound is concave, and bends only where two options of an item have the same value.
func Dual(c Case) (Cert, api.Errno) {
	if e := check(c); e != api.OK {
		return Cert{}, e
	}
	best := Cert{0, 1, c.bound(0, 1)}
	consider := func(p, q int) {
		x := Cert{P: p, Q: q, Bound: c.bound(p, q)}
		more := x.Bound*best.Q - best.Bound*x.Q
		if more > 0 || more == 0 && x.P*best.Q < best.P*x.Q {
			best = x
		}
	}
	for i := range c.Items {
		for k := range c.Items[i] {
			for m := range c.Items[i] {
				a, b := c.option(i, k), c.option(i, m)
				if turns, lines := a[0]-b[0], b[1]-a[1]; turns > 0 && lines > 0 {
					consider(reduce(turns, lines))
				}
			}
		}
	}
	return best, api.OK
}

// Check returns the turns of a choice, and the least number of turns that a certificate allows.
func Check(c Case, pick []int, p Cert) (int, int, api.Errno) {
	_, turns, e := Cost(c, pick)
	if e != api.OK {
		return 0, 0, e
	}
	if !possible(p.P, p.Q) || p.Bound != c.bound(p.P, p.Q) {
		return 0, 0, api.ErrProof
	}
	least := p.Bound / p.Q
	if least*p.Q < p.Bound {
		least++
	}
	return turns, least, api.OK
}
