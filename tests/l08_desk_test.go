package tests

import (
	"testing"

	"loop.example/g01328/impl"
)

// Promise 9: what a valid desk is.
func TestValidDesk(t *testing.T) {
	for i, d := range someDesks() {
		wantEqual(t, impl.ValidDesk(d), true, "ValidDesk", i)
	}
	for _, d := range notDesks() {
		wantEqual(t, impl.ValidDesk(d), false, "ValidDesk", d)
	}
	// A desk that is valid just so, with each part that has one point or spot too many, or too few.
	most, least := mostDesk(), leastDesk()
	for _, d := range []impl.Desk{
		{Curve: plain(line(9)...), Spline: most.Spline, Sheet: most.Sheet, Ring: most.Ring},
		{Curve: most.Curve, Spline: evenOf(5, line(25)...), Sheet: most.Sheet, Ring: most.Ring},
		{Curve: most.Curve, Spline: evenOf(6, line(24)...), Sheet: most.Sheet, Ring: most.Ring},
		{Curve: most.Curve, Spline: most.Spline, Sheet: impl.Sheet{Across: 7, Along: 6, Spots: somewhere(42)}, Ring: most.Ring},
		{Curve: most.Curve, Spline: most.Spline, Sheet: impl.Sheet{Across: 6, Along: 7, Spots: somewhere(42)}, Ring: most.Ring},
		{Curve: most.Curve, Spline: most.Spline, Sheet: most.Sheet, Ring: line(129)},
		{Curve: plain(0), Spline: least.Spline, Sheet: least.Sheet, Ring: least.Ring},
		{Curve: least.Curve, Spline: evenOf(1, 0), Sheet: least.Sheet, Ring: least.Ring},
		{Curve: least.Curve, Spline: least.Spline, Sheet: impl.Sheet{Across: 1, Along: 2, Spots: somewhere(2)}, Ring: least.Ring},
		{Curve: least.Curve, Spline: least.Spline, Sheet: least.Sheet, Ring: line(1)},
	} {
		wantEqual(t, impl.ValidDesk(d), false, "ValidDesk", d)
	}
}

// Promise 9: desks are the same if all of their numbers are, valid or not.
func TestSameDesk(t *testing.T) {
	desks := append(someDesks(), notDesks()[0])
	for i, a := range desks {
		for k, b := range desks {
			wantEqual(t, impl.SameDesk(a, copyDesk(b)), i == k, "SameDesk", i, k)
		}
	}
	for i, d := range notDesks() {
		wantEqual(t, impl.SameDesk(d, copyDesk(d)), true, "SameDesk of what is no desk", i)
	}
	for i, change := range []func(d *impl.Desk){
		func(d *impl.Desk) { d.Curve.Points[1] = 1 + 1.0000001i },
		func(d *impl.Desk) { d.Curve.Points[0] = complex(0, negZero) },
		func(d *impl.Desk) { d.Curve.Weights[2] = 2 },
		func(d *impl.Desk) { d.Curve.Weights = d.Curve.Weights[:2] },
		func(d *impl.Desk) { d.Curve.Points = append(d.Curve.Points, 3) },
		func(d *impl.Desk) { d.Spline.Degree = 3 },
		func(d *impl.Desk) { d.Spline.Knots[0] = negZero },
		func(d *impl.Desk) { d.Spline.Knots = d.Spline.Knots[:6] },
		func(d *impl.Desk) { d.Spline.Points[3] = 3 + 1i },
		func(d *impl.Desk) { d.Spline.Points = nil },
		func(d *impl.Desk) { d.Sheet.Across = 3 },
		func(d *impl.Desk) { d.Sheet.Along = 1 },
		func(d *impl.Desk) { d.Sheet.Spots[0].Z = negZero },
		func(d *impl.Desk) { d.Sheet.Spots[3].Y = notNum },
		func(d *impl.Desk) { d.Sheet.Spots = d.Sheet.Spots[1:] },
		func(d *impl.Desk) { d.Ring[0] = complex(negZero, 0) },
		func(d *impl.Desk) { d.Ring[2] = 4 - 4i },
		func(d *impl.Desk) { d.Ring[0], d.Ring[1] = d.Ring[1], d.Ring[0] },
		func(d *impl.Desk) { d.Ring = append(d.Ring, 0) },
		func(d *impl.Desk) { d.Ring = nil },
	} {
		d := freshDesk()
		change(&d)
		wantEqual(t, impl.SameDesk(d, freshDesk()), false, "SameDesk", i)
		wantEqual(t, impl.SameDesk(freshDesk(), d), false, "SameDesk, the other way round", i)
		wantEqual(t, impl.SameDesk(d, copyDesk(d)), true, "SameDesk of the changed one", i)
	}
	// All not-a-numbers are one value, and nil and an empty list are one.
	wild, other := freshDesk(), freshDesk()
	wild.Ring[1], other.Ring[1] = complex(notNum, 1), complex(otherwise(notNum), 1)
	wild.Sheet.Spots[0].X, other.Sheet.Spots[0].X = notNum, otherwise(notNum)
	wantEqual(t, impl.SameDesk(wild, other), true, "SameDesk of not-a-numbers")
	empty := impl.Desk{Curve: impl.Curve{Points: []complex64{}, Weights: []float32{}}, Spline: impl.Spline{Knots: []float32{}, Points: []complex64{}}, Sheet: impl.Sheet{Spots: []impl.Spot{}}, Ring: []complex64{}}
	wantEqual(t, impl.SameDesk(empty, impl.Desk{}), true, "SameDesk of nothing")
}

// Promise 9: the new desk, part by part.
func TestNewDesk(t *testing.T) {
	d := impl.NewDesk()
	wantDesk(t, d, true, freshDesk(), "NewDesk")
	wantTrue(t, impl.ValidDesk(d), "ValidDesk of NewDesk")
	wantTrue(t, impl.SameDesk(d, impl.NewDesk()), "SameDesk of NewDesk")
	curve, _ := impl.PlainCurve([]complex64{0, 1 + 1i, 2})
	spline, _ := impl.EvenSpline([]complex64{0, 1, 2, 3}, 2)
	flat, _ := impl.FlatSheet(2, 2, 4, 2)
	wantDesk(t, d, true, impl.Desk{Curve: curve, Spline: spline, Sheet: flat, Ring: []complex64{0, 4, 4 + 4i}}, "NewDesk, by other functions")
}
