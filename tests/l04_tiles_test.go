package tests

import (
	"slices"
	"testing"

	"loop.example/g01328/impl"
)

// Promise 5: corners of tiles.
func TestTilesOf(t *testing.T) {
	for _, c := range []struct {
		of   impl.Sheet
		m, n int64
		want []impl.Spot
	}{
		{floor(), 1, 1, floor().Spots},
		{floor(), 2, 1, spots(0, 0, 0, 2, 0, 0, 4, 0, 0, 0, 2, 0, 2, 2, 0, 4, 2, 0)},
		{floor(), 1, 2, spots(0, 0, 0, 4, 0, 0, 0, 1, 0, 4, 1, 0, 0, 2, 0, 4, 2, 0)},
		{roof(), 1, 1, spots(0, 0, 0, 4, 0, 0, 0, 8, 1, 4, 8, 1)},
		{roof(), 2, 2, spots(0, 0, 0, 2, 0, 2, 4, 0, 0, 0, 4, 0.5, 2, 4, 2.5, 4, 4, 0.5, 0, 8, 1, 2, 8, 3, 4, 8, 1)},
	} {
		got, ok := impl.TilesOf(c.of, c.m, c.n)
		wantSpots(t, got, ok, c.want, "TilesOf", c.of, c.m, c.n)
	}
	for _, size := range [][2]int64{{12, 12}, {12, 1}, {1, 12}, {7, 3}} {
		m, n := size[0], size[1]
		got, ok := impl.TilesOf(roof(), m, n)
		wantTrue(t, ok && int64(len(got)) == (m+1)*(n+1), "TilesOf", m, n)
		for j := range n + 1 {
			for i := range m + 1 {
				want, ok := impl.SheetAt(roof(), float32(i)/float32(m), float32(j)/float32(n))
				wantSpot(t, got[j*(m+1)+i], ok, want, "TilesOf", m, n, i, j)
			}
		}
	}
}

// Promise 5: corners of triangles.
func TestTrianglesOf(t *testing.T) {
	for _, c := range []struct {
		m, n int64
		want []int64
	}{
		{1, 1, []int64{0, 1, 2, 1, 3, 2}},
		{2, 1, []int64{0, 1, 3, 1, 4, 3, 1, 2, 4, 2, 5, 4}},
		{1, 2, []int64{0, 1, 2, 1, 3, 2, 2, 3, 4, 3, 5, 4}},
	} {
		got, ok := impl.TrianglesOf(c.m, c.n)
		wantTrue(t, ok && slices.Equal(got, c.want), "TrianglesOf", c.m, c.n, got)
	}
	got, ok := impl.TrianglesOf(12, 12)
	wantTrue(t, ok && len(got) == 864, "TrianglesOf", 12, 12)
	wantTrue(t, slices.Equal(got[858:], []int64{154, 155, 167, 155, 168, 167}), "TrianglesOf", 12, 12, got[858:])
}

// Promise 5: areas of tiles are sums of halves.
func TestAreaOfTiles(t *testing.T) {
	for _, c := range []struct {
		list []impl.Spot
		m, n int64
		want float32
	}{
		{floor().Spots, 1, 1, 8}, {roof().Spots, 2, 1, 0x1.1ea9ep6},
		{spots(0, 0, 0, 3, 0, 0, 0, 0, 5, 3, 0, 5), 1, 1, 15}, {spots(0, 0, 0, 0, 3, 0, 0, 0, 5, 0, 3, 5), 1, 1, 15},
		{repeated(spot(1, 2, 3), 6), 1, 2, 0}, {make([]impl.Spot, 169), 12, 12, 0},
		// Only the second triangle has an area.
		{spots(0, 0, 0, 2, 0, 0, 4, 0, 0, 0, 2, 0), 1, 1, 2},
		{spots(0, 0, 0, 0x1p31, 0, 0, 0, 0x1p31, 0, 0x1p31, 0x1p31, 0), 1, 1, 0x1p62},
	} {
		got, ok := impl.AreaOfTiles(c.list, c.m, c.n)
		wantOne(t, got, ok, c.want, "AreaOfTiles", c.list, c.m, c.n)
	}
	for _, side := range []float32{0x1p32, 1e20, mostNumber} {
		for _, list := range [][]impl.Spot{
			spots(0, 0, 0, side, 0, 0, 0, side, 0, 0, 0, 0), spots(0, 0, 0, 0, 0, 0, 0, side, 0, side, 0, 0),
		} {
			got, ok := impl.AreaOfTiles(list, 1, 1)
			wantPair(t, got, ok, 0, false, "AreaOfTiles, too great", list)
		}
	}
	for i := range 4 {
		list := repeated(spot(mostNumber, 0, 0), 4)
		list[i] = spot(-mostNumber, 0, 0)
		got, ok := impl.AreaOfTiles(list, 1, 1)
		wantPair(t, got, ok, 0, false, "AreaOfTiles, sides too long", list)
	}
}

// Promise 5: a flat sheet has the same area in any tiles, nearly.
func TestFlatAreas(t *testing.T) {
	for _, size := range [][2]int64{{1, 1}, {1, 12}, {12, 1}, {5, 7}, {12, 12}} {
		for _, of := range [][2]int64{{2, 2}, {6, 6}, {3, 5}} {
			flat, _ := impl.FlatSheet(of[0], of[1], 3, 5)
			tiles, _ := impl.TilesOf(flat, size[0], size[1])
			area, ok := impl.AreaOfTiles(tiles, size[0], size[1])
			wantTrue(t, ok, "AreaOfTiles", of, size)
			wantAbout(t, area, 15, 1e-4, "AreaOfTiles", of, size)
		}
	}
}

// Promise 5: where planes cut tiles, with corners just at a plane.
func TestLevelCuts(t *testing.T) {
	square := floor().Spots
	for _, c := range []struct {
		list  []impl.Spot
		m, n  int64
		way   impl.Spot
		level float32
		want  []impl.Spot
	}{
		{square, 1, 1, spot(1, 0, 0), 1, spots(1, 0, 0, 1, 1.5, 0, 1, 2, 0, 1, 1.5, 0)},
		{square, 1, 1, spot(-1, 0, 0), -1, spots(1, 0, 0, 1, 1.5, 0, 1, 2, 0, 1, 1.5, 0)},
		{square, 1, 1, spot(0, 2, 0), 3, spots(1, 1.5, 0, 0, 1.5, 0, 4, 1.5, 0, 1, 1.5, 0)},
		// Just at the plane is up: a side that is there does not make a cut of its own.
		{square, 1, 1, spot(1, 0, 0), 0, nil}, {square, 1, 1, spot(1, 0, 0), 4, spots(4, 0, 0, 4, 0, 0, 4, 2, 0, 4, 0, 0)},
		{square, 1, 1, spot(-1, 0, 0), 0, spots(0, 0, 0, 0, 2, 0, 0, 2, 0, 0, 2, 0)}, {square, 1, 1, spot(-1, 0, 0), -4, nil},
		{square, 1, 1, spot(1, 0, 0), above(4), nil}, {square, 1, 1, spot(1, 0, 0), -leastNumber, nil},
		{square, 1, 1, spot(0, 0, 1), 0, nil}, {square, 1, 1, spot(0, 0, 1), negZero, nil},
		{square, 1, 1, spot(0, 0, -1), 0, nil}, {square, 1, 1, spot(0, 0, 1), leastNumber, nil},
		{square, 1, 1, spot(0, 0, 0), 0, nil}, {square, 1, 1, spot(0, 0, 0), 1, nil}, {square, 1, 1, spot(0, 0, 0), -1, nil},
		// One corner of each triangle, and then two, are at the plane.
		{square, 1, 1, spot(1, 2, 0), 4, spots(4, 0, 0, 0, 2, 0)},
		{square, 1, 1, spot(-1, -2, 0), -4, spots(4, 0, 0, 0, 2, 0)},
		{square, 1, 1, spot(1, 2, 0), 8, spots(4, 2, 0, 4, 2, 0)}, {square, 1, 1, spot(-1, -2, 0), 0, spots(0, 0, 0, 0, 0, 0)},
		{roof().Spots, 2, 1, spot(0, 0, 1), 1, spots(0.5, 0, 1, 0, 8, 1, 3.5, 0, 1, 0x1.ccccccp1, 0x1.99999ap0, 1, 4, 8, 1, 0x1.ccccccp1, 0x1.999998p0, 1)},
		// A height may be no number, or no finite one: only what is returned counts.
		{square, 1, 1, spot(mostNumber, 0, 0), 0, nil}, {spots(0, 0, 0, 4, 4, 0, 4, 4, 0, 4, 4, 0), 1, 1, spot(mostNumber, -mostNumber, 0), 1, nil},
		{spots(0, 0, 0, 4, 0, 0, 0, 1, 0, 4, 1, 0), 1, 1, spot(mostNumber, 8, 0), 4, spots(0, 0, 0, 0, 0.5, 0)},
		{spots(0, 2, 0, -4, 0, 0, 0, 0, 0, -4, 1, 0), 1, 1, spot(mostNumber, 8, 0), 4, spots(0, 2, 0, 0, 0.5, 0)},
	} {
		got, ok := impl.LevelCuts(c.list, c.m, c.n, c.way, c.level)
		wantSpots(t, got, ok, c.want, "LevelCuts", c.list, c.way, c.level)
	}
}

// Promise 5: no cut where a spot would have no finite part.
func TestLevelCutsTooGreat(t *testing.T) {
	square := floor().Spots
	for _, c := range []struct {
		list  []impl.Spot
		way   impl.Spot
		level float32
	}{
		// From an infinite height to a finite one, and from a finite one to one that is no number.
		{square, spot(mostNumber, 0, 0), 1}, {spots(-4, 0, 0, 0, 2, 0, 0, 0, 0, 0, 2, 0), spot(mostNumber, 1, 0), 0},
		{spots(0, 0, 0, 4, 4, 0, 4, 4, 0, 4, 4, 0), spot(mostNumber, -mostNumber, 0), -1},
		// Both corners are finite, but what is between is not.
		{spots(-mostNumber, 0, 0, mostNumber, 0, 0, 0, 1, 0, 0, 1, 0), spot(0x1p-100, 0, 0), 1},
	} {
		got, ok := impl.LevelCuts(c.list, 1, 1, c.way, c.level)
		wantNoList(t, got, ok, "LevelCuts", c.list, c.way, c.level)
	}
	for _, p := range notSpots() {
		got, ok := impl.LevelCuts(square, 1, 1, p, 1)
		wantNoList(t, got, ok, "LevelCuts, way", p)
	}
	for _, x := range wildNumbers() {
		got, ok := impl.LevelCuts(square, 1, 1, spot(1, 0, 0), x)
		wantNoList(t, got, ok, "LevelCuts, level", x)
	}
}

// Promise 5: cuts are on the plane, nearly, and two for each triangle that the plane cuts.
func TestLevelCutsAreLevel(t *testing.T) {
	s := newSource()
	for range 200 {
		m, n := int64(1+s.below(12)), int64(1+s.below(12))
		list, way, level := s.spots(int((m+1)*(n+1))), s.spot(), place(s.word())
		got, ok := impl.LevelCuts(list, m, n, way, level)
		wantTrue(t, ok && len(got)%2 == 0 && int64(len(got)) <= 4*m*n, "LevelCuts", m, n, len(got))
		for _, p := range got {
			wantAbout(t, p.X*way.X+p.Y*way.Y+p.Z*way.Z, level, 1e-4, "LevelCuts", p, way)
		}
	}
	whole, ok := impl.LevelCuts(zigzag(), 12, 12, spot(0, 0, 1), 0.5)
	wantTrue(t, ok && len(whole) == 576, "LevelCuts of all triangles", len(whole))
}

// zigzag has spots of 12 times 12 tiles, of which no three corners of a triangle are on one side of 1/2.
func zigzag() []impl.Spot {
	var list []impl.Spot
	for j := range 13 {
		for i := range 13 {
			list = append(list, spot(float32(i), float32(j), float32(i%2)))
		}
	}
	return list
}

// Promise 5: there are no other numbers of tiles, nor spots of tiles other than all of their corners.
func TestTilesThatThereAreNot(t *testing.T) {
	up := spot(0, 0, 1)
	for _, wrong := range notTiles() {
		for _, size := range [][2]int64{{wrong, 1}, {1, wrong}, {wrong, wrong}} {
			m, n := size[0], size[1]
			var o outcome
			o.addSpots(impl.TilesOf(floor(), m, n))
			o.addSpots(impl.TilesShared(floor(), m, n, 1))
			o.addIndices(impl.TrianglesOf(m, n))
			wantNothing(t, o, "tiles", m, n)
			for _, count := range []int64{0, 1, 2, 4, 28, 196} {
				wantNothing(t, ofTiles(make([]impl.Spot, count), m, n, up, 0), "spots of tiles", m, n, count)
			}
			if m >= -1 && n >= -1 && m <= 13 && n <= 13 {
				wantNothing(t, ofTiles(make([]impl.Spot, (m+1)*(n+1)), m, n, up, 0), "spots of tiles", m, n)
			}
		}
	}
	for _, size := range [][2]int64{{1, 1}, {3, 2}, {12, 12}} {
		m, n := size[0], size[1]
		count := (m + 1) * (n + 1)
		for _, wrong := range []int64{0, m * n, count - 1, count + 1} {
			wantNothing(t, ofTiles(make([]impl.Spot, wrong), m, n, up, 0), "spots of tiles", m, n, wrong)
		}
		for _, p := range notSpots() {
			for _, i := range []int64{0, 1, count - 1} {
				list := make([]impl.Spot, count)
				list[i] = p
				wantNothing(t, ofTiles(list, m, n, up, 0), "spots of tiles", m, n, i, p)
			}
		}
	}
}
