package tests

import (
	"testing"

	"loop.example/g01328/impl"
)

// speeds are pieces with how fast a tool can be at their ends, and how long it takes.
type speeds struct {
	longs      []float32
	most, rise float32
	want       string
	time       uint32
}

// Promise 8: speeds at the ends of pieces, and the time, to the last bit.
func TestSpeedPlan(t *testing.T) {
	for _, c := range []speeds{
		{[]float32{1, 1}, 1, 2, "00000000,3f800000,00000000", 0x40800000}, {[]float32{1, 1, 1}, 10, 0.5, "00000000,3f800000,3f800000,00000000", 0x40a00000},
		// The speed grows from the first end, and becomes less up to the last one.
		{[]float32{1, 2, 3}, 10, 0.5, "00000000,3f800000,3fddb3d7,00000000", 0x40ddb3d8}, {[]float32{3, 2, 1}, 10, 0.5, "00000000,3fddb3d7,3f800000,00000000", 0x40ddb3d8},
		{[]float32{4, 0.125, 4}, 2, 1, "00000000,40000000,40000000,00000000", 0x41010000}, {[]float32{1, 1, 1, 1}, 1, 0.125, "00000000,3f000000,3f3504f3,3f000000,00000000", 0x413504f3},
		{[]float32{0.1, 0.2}, 5, 5, "00000000,3f800000,00000000", 0x3f19999a}, {[]float32{1, 1, 1, 1}, 0.3, 0.1, "00000000,3e99999a,3e99999a,3e99999a,00000000", 0x41a00000},
		// What is too great for a number is not less than any speed.
		{[]float32{1, 1}, 2, mostNumber, "00000000,40000000,00000000", 0x40000000}, {[]float32{0x1p126, 0x1p126}, 0x1p100, 2, "00000000,71800000,00000000", 0x4d800000},
		{[]float32{1, 1, 1}, mostNumber, 0.5, "00000000,3f800000,3f800000,00000000", 0x40a00000}, {[]float32{leastNumber, leastNumber}, 1, 0.5, "00000000,1a3504f3,00000000", 0x1b3504f3},
	} {
		got, time, ok := impl.SpeedPlan(c.longs, c.most, c.rise)
		wantNumbers(t, got, ok, hexNumbers(c.want), "SpeedPlan", c.longs, c.most, c.rise)
		wantBits(t, time, c.time, "time of SpeedPlan", c.longs, c.most, c.rise)
	}
	got, time, ok := impl.SpeedPlan(repeated[float32](1, 64), 1, 0.5)
	wantTrue(t, ok && len(got) == 65 && time == 66, "SpeedPlan of the most pieces", got, time)
}

// Promise 8: pieces, speeds and changes that there cannot be, and times that are too long.
func TestSpeedPlanFails(t *testing.T) {
	list := []speeds{
		{nil, 1, 1, "", 0}, {[]float32{}, 1, 1, "", 0}, {repeated[float32](1, 65), 1, 1, "", 0}, {repeated[float32](1, 1000), 1, 1, "", 0},
		// At both ends of a single piece, the tool stands still.
		{[]float32{1}, 1, 1, "", 0}, {[]float32{5}, 0.5, 3, "", 0},
		// It does so at both ends of a piece where the speed between is too little for a number, and otherwise its time is too long.
		{[]float32{leastNumber, leastNumber}, 1, 0.25, "", 0}, {[]float32{mostNumber, 1}, 1, 1, "", 0}, {[]float32{0x1p126, 0x1p126}, 0.25, 1, "", 0},
	}
	for _, x := range notPositive() {
		list = append(list, speeds{[]float32{1, 1}, x, 1, "", 0}, speeds{[]float32{1, 1}, 1, x, "", 0},
			speeds{[]float32{x, 1}, 1, 1, "", 0}, speeds{[]float32{1, x}, 1, 1, "", 0}, speeds{[]float32{1, x, 1}, 1, 1, "", 0})
	}
	for _, c := range list {
		got, time, ok := impl.SpeedPlan(c.longs, c.most, c.rise)
		wantNoList(t, got, ok, "SpeedPlan", c)
		wantNumber(t, time, 0, "time of SpeedPlan", c)
	}
}

// Promise 8: no speed is too great, nor changes too much, nearly, and each one but the ends is as great as it can be.
func TestSpeedsAreBounded(t *testing.T) {
	s := newSource()
	for range 300 {
		longs := s.sizes(2 + s.below(63))
		for i := range longs {
			longs[i] += 0.01
		}
		most, rise := s.size()+0.01, s.size()+0.01
		got, time, ok := impl.SpeedPlan(longs, most, rise)
		wantTrue(t, ok && len(got) == len(longs)+1 && got[0] == 0 && got[len(longs)] == 0, "SpeedPlan", longs, most, rise)
		sum := float32(0)
		for i, long := range longs {
			former, latter := got[i], got[i+1]
			change := (latter*latter - former*former) / (2 * long)
			wantTrue(t, former >= 0 && former <= most && change < rise*1.01+1e-3 && change > -rise*1.01-1e-3, "speed of SpeedPlan", longs, most, rise, i)
			sum += long / ((former + latter) / 2)
			if i > 0 {
				before := (former*former - got[i-1]*got[i-1]) / (2 * longs[i-1])
				wantTrue(t, former > 0.99*most || before > 0.97*rise || change < -0.97*rise, "greatest speed of SpeedPlan", longs, most, rise, i)
			}
		}
		wantAbout(t, time, sum, sum/1000, "time of SpeedPlan", longs, most, rise)
	}
}

// planned is a way with its plan.
type planned struct {
	long, most, rise, jerk float32
	want                   string
}

// Promise 8: plans of ways, to the last bit.
func TestJerkPlan(t *testing.T) {
	for _, c := range []planned{
		{2, 1, 1, 1, "3f800000,3f800000,00000000,00000000"}, {3, 1, 1, 1, "3f800000,3f800000,00000000,3f800000"}, {0.25, 1, 1, 1, "3f800000,3f000000,00000000,00000000"},
		// The speed is reached before the change of it, or just then, and so there is no Hold.
		{16, 1, 2, 1, "3f800000,3f800000,00000000,41600000"}, {2, 1, 2, 1, "3f800000,3f800000,00000000,00000000"}, {1, 1, 2, 1, "3f800000,3f4b2ff5,00000000,00000000"},
		{1, 1e-3, 10, 0.1, "3dcccccd,3dcccccd,00000000,4479f333"}, {2, 1, above(1), 1, "3f800000,3f800000,00000000,00000000"},
		// There is one, with Cruise, without it, and where both would go too far.
		{15, 3, 1, 1, "3f800000,3f800000,40000000,3f800000"}, {12, 3, 1, 1, "3f800000,3f800000,40000000,00000000"}, {3, 3, 1, 1, "3f800000,3f214518,3fa14518,00000000"},
		{1.5, 3, 1, 1, "3f800000,3f000000,3f800000,00000000"}, {100, 7, 3, 2, "40000000,3fc00000,3f555554,41273cf5"}, {5, 7, 3, 2, "40000000,3f5b5442,3ef3b2f2,00000000"}, {0.1, 7, 3, 2, "40000000,3e6e23ee,3e044cd9,00000000"},
		// So much shorter that little or nothing is left.
		{1e-20, 1, 1, 1, "3f800000,34370000,00000000,00000000"}, {1e-30, 1, 1, 1, "3f800000,00000000,00000000,00000000"},
	} {
		got, ok := impl.JerkPlan(c.long, c.most, c.rise, c.jerk)
		n := hexNumbers(c.want)
		wantPair(t, got, ok, impl.Plan{Jerk: n[0], Rise: n[1], Hold: n[2], Cruise: n[3]}, true, "JerkPlan", c)
	}
	for _, x := range notPositive() {
		for _, c := range [][4]float32{{x, 1, 1, 1}, {1, x, 1, 1}, {1, 1, x, 1}, {1, 1, 1, x}} {
			got, ok := impl.JerkPlan(c[0], c[1], c[2], c[3])
			wantPair(t, got, ok, impl.Plan{}, false, "JerkPlan", c)
		}
	}
	// Hold would be less than 0 by the last bit, or a part would be too great.
	n := hexNumbers("4017c2e2,4031f4f3,4050ac8d")
	for _, c := range []planned{{100, n[0], n[1], n[2], ""}, {0.1, n[0], n[1], n[2], ""}, {1, mostNumber, 1e-9, 1, ""}, {1, mostNumber, mostNumber, 1e-9, ""}, {mostNumber, 1e-20, 1, 1, ""}} {
		got, ok := impl.JerkPlan(c.long, c.most, c.rise, c.jerk)
		wantPair(t, got, ok, impl.Plan{}, false, "JerkPlan, not valid", c)
	}
}

// Promise 8, and the chapter's example: how long plans take.
func TestPlanTime(t *testing.T) {
	for _, c := range []struct {
		p    impl.Plan
		want float32
	}{
		{impl.Plan{Jerk: 1, Rise: 1}, 4}, {impl.Plan{Jerk: 2, Rise: 0.5, Hold: 0.25, Cruise: 3}, 5.5}, {impl.Plan{Jerk: leastNumber}, 0}, {impl.Plan{Jerk: mostNumber, Hold: 1}, 2},
		{impl.Plan{Jerk: 1, Rise: negZero, Hold: 1}, 2}, {impl.Plan{Jerk: 1, Cruise: mostNumber}, mostNumber}, {impl.Plan{Jerk: 1, Rise: 0x1p22, Hold: 0.5, Cruise: 1}, 0x1p24},
		{impl.Plan{Jerk: 1, Rise: 0x1p125}, 0x1p127},
	} {
		got, ok := impl.PlanTime(c.p)
		wantOne(t, got, ok, c.want, "PlanTime", c.p)
	}
	for _, p := range append(notPlans(), impl.Plan{Jerk: 1, Rise: 0x1p126}, impl.Plan{Jerk: 1, Hold: 0x1p127}, impl.Plan{Jerk: 1, Hold: 1e38, Cruise: mostNumber}) {
		got, ok := impl.PlanTime(p)
		wantPair(t, got, ok, 0, false, "PlanTime", p)
	}
}

// Promise 8, and the chapter's example: how far plans have gone, to the last bit.
func TestPlanWay(t *testing.T) {
	short, all := impl.Plan{Jerk: 1, Rise: 1}, impl.Plan{Jerk: 6, Rise: 1, Hold: 2, Cruise: 3}
	for _, c := range []struct {
		p    impl.Plan
		t    float32
		want uint32
	}{
		{short, 0, 0}, {short, negZero, 0}, {short, 0.5, 0x3caaaaab}, {short, 1, 0x3e2aaaab}, {short, 2, 0x3f800000}, {short, 3, 0x3feaaaaa}, {short, 4, 0x3fffffff}, {short, 9, 0x3fffffff}, {short, mostNumber, 0x3fffffff},
		{all, 1, 0x3f800000}, {all, 3, 0x41980000}, {all, 4, 0x42100000}, {all, 5.5, 0x427c0000}, {all, 7, 0x42b40000}, {all, 8, 0x42d60000}, {all, 10, 0x42fa0000}, {all, 11, 0x42fc0000}, {all, 12, 0x42fc0000},
		{impl.Plan{Jerk: 6, Hold: 2, Cruise: 3}, 2, 0}, {impl.Plan{Jerk: 0.1, Rise: 0.7, Hold: 0.3, Cruise: 0.2}, 1.3, 0x3d0564a0}, {impl.Plan{Jerk: 0.1, Rise: 0.7, Hold: 0.3, Cruise: 0.2}, 3.6, 0x3e083127},
		{impl.Plan{Jerk: 6, Rise: negZero, Hold: negZero, Cruise: negZero}, 1, 0},
	} {
		got, ok := impl.PlanWay(c.p, c.t)
		wantTrue(t, ok, "PlanWay", c.p, c.t)
		wantBits(t, got, c.want, "PlanWay", c.p, c.t)
	}
	for _, x := range append(wildNumbers(), -leastNumber, -1, -mostNumber) {
		got, ok := impl.PlanWay(short, x)
		wantPair(t, got, ok, 0, false, "PlanWay", x)
	}
	for _, p := range append(notPlans(), impl.Plan{Jerk: 1, Rise: 1e20}, impl.Plan{Jerk: mostNumber, Rise: 9}, impl.Plan{Jerk: 1, Rise: 1, Hold: 1e30}, impl.Plan{Jerk: 1e30, Rise: 1, Cruise: mostNumber}) {
		got, ok := impl.PlanWay(p, 1e30)
		wantPair(t, got, ok, 0, false, "PlanWay", p)
	}
	for _, p := range notPlans() {
		got, ok := impl.PlanWay(p, 0)
		wantPair(t, got, ok, 0, false, "PlanWay", p)
	}
}

// Promise 8: plans go their way, nearly, never back, and keep to what is told.
func TestPlansGoTheirWay(t *testing.T) {
	s := newSource()
	for range 400 {
		long, most, rise, jerk := s.size()+0.01, s.size()+0.01, s.size()+0.01, s.size()+0.01
		p, ok := impl.JerkPlan(long, most, rise, jerk)
		if !ok {
			continue
		}
		time, ok := impl.PlanTime(p)
		wantTrue(t, ok && p.Jerk == jerk, "PlanTime", p)
		gone, ok := impl.PlanWay(p, time)
		wantTrue(t, ok, "PlanWay", p)
		wantAbout(t, gone, long, long/500+1e-3, "PlanWay in all", long, most, rise, jerk)
		wantTrue(t, jerk*p.Rise <= rise*1.001 && jerk*p.Rise*(p.Rise+p.Hold) <= most*1.001, "JerkPlan keeps to", long, most, rise, jerk)
		halfway, _ := impl.PlanWay(p, time/2)
		wantAbout(t, halfway, long/2, long/500+1e-3, "PlanWay halfway", long, most, rise, jerk)
		before := float32(0)
		for k := range 33 {
			way, ok := impl.PlanWay(p, time*float32(k)/32)
			wantTrue(t, ok && way >= before-long/1000 && way-before <= most*time/32*1.01+long/1000, "PlanWay on the way", long, most, rise, jerk, k)
			before = way
		}
	}
}
