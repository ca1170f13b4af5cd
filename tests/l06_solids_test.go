package tests

import (
	"testing"

	"loop.example/g01328/impl"
)

// pill is a quad that is not flat, with a facet at each side; both go from the same corner, or not.
func pill(back ...int64) impl.Net {
	return net(spots(0, 0, 0, 2, 0, 0, 2, 2, 2, 0, 2, 0), []int64{0, 1, 2, 3}, back)
}

// scaled has all spots times a number.
func scaled(n impl.Net, by float32) impl.Net {
	n = copyNet(n)
	for i, p := range n.Spots {
		n.Spots[i] = spot(p.X*by, p.Y*by, p.Z*by)
	}
	return n
}

// shifted has all spots plus another one.
func shifted(n impl.Net, by impl.Spot) impl.Net {
	n = copyNet(n)
	for i, p := range n.Spots {
		n.Spots[i] = spot(p.X+by.X, p.Y+by.Y, p.Z+by.Z)
	}
	return n
}

// Promise 7, and the chapter's example: volumes of nets without borders, to the last bit.
func TestVolumeOfNet(t *testing.T) {
	round, _ := impl.RoundNet(brick())
	for _, c := range []struct {
		n    impl.Net
		want float32
	}{
		{brick(), 6}, {tip(), 36}, {hourglass(), 72}, {coin(), 0}, {alike(tip(), spot(1, 2, 3)), 0}, {shifted(tip(), spot(1, 2, 3)), 36}, {round, 0x1.3ffffep1},
		{net(tip().Spots, []int64{1, 2, 0}, []int64{3, 1, 0}, []int64{3, 2, 1}, []int64{3, 0, 2}), -36}, {scaled(brick(), -1), -6}, {scaled(brick(), 0x1p40), 6 * 0x1p120},
		// Triangles begin at the first corner of a facet.
		{pill(3, 2, 1, 0), 4.0 / 3}, {pill(2, 1, 0, 3), 0}, {pill(0, 3, 2, 1), 0}, {pill(1, 0, 3, 2), 4.0 / 3},
	} {
		got, ok := impl.VolumeOfNet(c.n)
		wantOne(t, got, ok, c.want, "VolumeOfNet", c.n)
	}
	for _, sides := range [][3]float32{{1, 1, 1}, {2, 3, 5}, {-2, 3, 5}, {0.5, -0.25, -8}, {0, 3, 5}} {
		n, _ := impl.BoxNet(sides[0], sides[1], sides[2])
		got, ok := impl.VolumeOfNet(n)
		wantTrue(t, ok && got == sides[0]*sides[1]*sides[2], "VolumeOfNet of a box", sides, got)
	}
	for _, n := range []impl.Net{
		tent(), bow(), gridOf(1, 1), polygon(3), fan(9), net(tip().Spots, []int64{0, 2, 1}, []int64{0, 1, 3}, []int64{1, 2, 3}),
		// A product of two parts is too great, one of three, and the sum of all.
		scaled(tip(), 1e20), scaled(brick(), 1e20), scaled(tip(), 1e13), scaled(tip(), 0x1.4p40), scaled(hourglass(), 0x1p40),
	} {
		got, ok := impl.VolumeOfNet(n)
		wantPair(t, got, ok, 0, false, "VolumeOfNet", n)
	}
	got, ok := impl.VolumeOfNet(scaled(tip(), 0x1p40))
	wantOne(t, got, ok, 36*0x1p120, "VolumeOfNet, great")
}

// Promise 7: areas of nets, with borders or without, to the last bit.
func TestAreaOfNet(t *testing.T) {
	round, _ := impl.RoundNet(brick())
	for _, c := range []struct {
		n    impl.Net
		want uint32
	}{
		{brick(), bitsOf(22)}, {scaled(brick(), -2), bitsOf(88)}, {tip(), 0x42aa5a94}, {shifted(tip(), spot(1, 2, 3)), 0x42aa5a94}, {coin(), bitsOf(9)},
		{tent(), 0x4283f07b}, {bow(), 0x410f1bbd}, {hourglass(), 0x432a5a94}, {gridOf(8, 7), bitsOf(56)}, {alike(fan(9), spot(1, 2, 3)), 0}, {round, 0x4133d083},
		{net(spots(0, 0, 0, 4, 0, 0, 5, 3, 0, 2, 5, 0, -1, 3, 0), []int64{0, 1, 2, 3, 4}), bitsOf(21)}, {scaled(gridOf(1, 1), 0x1p31), bitsOf(0x1p62)},
		// Triangles begin at the first corner of a facet.
		{net(pill().Spots, []int64{0, 1, 2, 3}), 0x40b504f3}, {net(pill().Spots, []int64{1, 2, 3, 0}), 0x40aed9ec},
	} {
		got, ok := impl.AreaOfNet(c.n)
		wantTrue(t, ok, "AreaOfNet", c.n)
		wantBits(t, got, c.want, "AreaOfNet", c.n)
	}
	const m = mostNumber
	for _, n := range []impl.Net{
		// Sides, their products, and squares of these that are too great.
		net(spots(-m, 0, 0, m, 0, 0, 0, 1, 0), []int64{0, 1, 2}), net(spots(0, 0, 0, m, 0, 0, 0, m, 0), []int64{0, 1, 2}), net(spots(0, 0, 0, 1e20, 0, 0, 0, 1e20, 0), []int64{0, 1, 2}),
		scaled(gridOf(1, 1), 0x1p32), scaled(brick(), 1e12), scaled(bow(), -1e18),
	} {
		got, ok := impl.AreaOfNet(n)
		wantPair(t, got, ok, 0, false, "AreaOfNet, too great", n)
	}
}

// Promise 7: a net turned round has the opposite volume, and the same area, nearly.
func TestVolumesOfTurnedNets(t *testing.T) {
	s := newSource()
	volumes := 0
	for range 300 {
		n := s.net()
		if len(n.Facets) == 0 {
			continue
		}
		// With three corners, it does not matter at which one a facet begins.
		three := true
		for _, f := range n.Facets {
			three = three && len(f.Corners) == 3
		}
		back, _ := impl.BackNet(n)
		area, ok := impl.AreaOfNet(n)
		turned, isTurned := impl.AreaOfNet(back)
		wantTrue(t, ok && isTurned && area > 0, "AreaOfNet", n)
		volume, hasVolume := impl.VolumeOfNet(n)
		opposite, hasOpposite := impl.VolumeOfNet(back)
		wantEqual(t, hasVolume, borderCount(t, n) == 0, "VolumeOfNet", n)
		wantEqual(t, hasOpposite, hasVolume, "VolumeOfNet, turned round", n)
		if three {
			wantAbout(t, turned, area, 1e-3, "AreaOfNet, turned round", n)
			wantAbout(t, opposite, -volume, 1e-4, "VolumeOfNet, turned round", n)
		}
		if three && hasVolume {
			volumes++
			moved, _ := impl.VolumeOfNet(shifted(n, spot(1, -1, 0.5)))
			wantAbout(t, moved, volume, 1e-4, "VolumeOfNet, shifted", n)
		}
	}
	wantTrue(t, volumes > 20, "volumes", volumes)
}
