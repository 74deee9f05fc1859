package point

import (
	"engrosser/api"
	"engrosser/field"
)

// reckoned is a point in reckoning: its x and its y are those here divided by z, which is never 0. So a division is done just once, in the end.
type reckoned struct{ x, y, z api.Fe }

// lifted answers p in reckoning.
func lifted(p api.Point) reckoned { return reckoned{p.X, p.Y, field.Small(1)} }

// plain answers the point that r is.
func (r reckoned) plain() api.Point {
	part := field.Invert(r.z)
	return api.Point{X: field.Mul(r.x, part), Y: field.Mul(r.y, part)}
}

// plus answers r and q added, as the chapter adds them: here more and less are its 1 + k and 1 - k, times z z. On the curve neither is ever 0, as D has no root, so that points that are the same, or opposite, need no way of their own.
func (r reckoned) plus(q reckoned) reckoned {
	z, xx, yy := field.Mul(r.z, q.z), field.Mul(r.x, q.x), field.Mul(r.y, q.y)
	cross := field.Sub(field.Sub(field.Mul(field.Add(r.x, r.y), field.Add(q.x, q.y)), xx), yy)
	zz, k := field.Mul(z, z), field.Mul(D(), field.Mul(xx, yy))
	more, less := field.Add(zz, k), field.Sub(zz, k)
	return reckoned{
		x: field.Mul(field.Mul(cross, z), less),
		y: field.Mul(field.Mul(field.Add(yy, xx), z), more),
		z: field.Mul(more, less),
	}
}

// twice answers r added to itself, in little more than half of the time of plus: for then 1 + k is y y - x x, by the curve.
func (r reckoned) twice() reckoned {
	xx, yy, zz := field.Mul(r.x, r.x), field.Mul(r.y, r.y), field.Mul(r.z, r.z)
	more := field.Sub(yy, xx)
	less := field.Sub(field.Add(zz, zz), more)
	return reckoned{
		x: field.Mul(field.Mul(field.Add(r.x, r.x), r.y), less),
		y: field.Mul(field.Add(yy, xx), more),
		z: field.Mul(more, less),
	}
}

// times16 answers r 16 times.
func (r reckoned) times16() reckoned { return r.twice().twice().twice().twice() }

// multiples answers p 0 times, once, and so on: what half a byte may ask for.
func multiples(p api.Point) (all [16]reckoned) {
	all[0] = lifted(Zero())
	add := lifted(p).plus
	for i := range len(all) - 1 {
		all[i+1] = add(all[i])
	}
	return all
}
