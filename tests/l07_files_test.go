package tests

import (
	"math"
	"strings"
	"testing"

	"loop.example/g01328/impl"
)

// bytesOf writes a file of an outline, valid or not, without the program.
func bytesOf(o impl.Outline) string {
	bytes := append([]byte("OUT1"), byte(len(o.Name)))
	bytes = append(bytes, o.Name...)
	bytes = append(bytes, byte(len(o.Loops)))
	for _, loop := range o.Loops {
		bytes = append(bytes, byte(len(loop)))
		for _, point := range loop {
			for _, x := range []float32{real(point), imag(point)} {
				bits := math.Float32bits(x)
				bytes = append(bytes, byte(bits), byte(bits>>8), byte(bits>>16), byte(bits>>24))
			}
		}
	}
	return checked(string(bytes))
}

// checked puts the check number behind bytes.
func checked(s string) string {
	check := 0
	for _, b := range []byte(s) {
		check = (859*check + int(b) + 151) % 65003
	}
	return s + string([]byte{byte(check), byte(check >> 8)})
}

// Promise 8: the bytes of an outline.
func TestStoreOutline(t *testing.T) {
	zero, one := "\x00\x00\x00\x00", "\x00\x00\x80\x3f"
	for _, c := range []struct {
		o    impl.Outline
		want string
	}{
		{outline("a", []complex64{0, 1, 1i}), "OUT1\x01a\x01\x03" + zero + zero + one + zero + zero + one},
		{outline("abcdefgh", []complex64{-2, complex(negZero, 0.1), complex(leastNumber, mostNumber)}), "OUT1\x08abcdefgh\x01\x03\x00\x00\x00\xc0" + zero + "\x00\x00\x00\x80\xcd\xcc\xcc\x3d\x01\x00\x00\x00\xff\xff\x7f\x7f"},
		{outline("xy", []complex64{0, 1, 1i}, repeated[complex64](1, 4)), "OUT1\x02xy\x02\x03" + zero + zero + one + zero + zero + one + "\x04" + strings.Repeat(one+zero, 4)},
		{outline("z", repeated[complex64](0, 64)), "OUT1\x01z\x01\x40" + strings.Repeat(zero, 128)},
	} {
		got, ok := impl.StoreOutline(c.o)
		wantPair(t, got, ok, checked(c.want), true, "StoreOutline", c.o)
	}
	for _, o := range someOutlines() {
		got, ok := impl.StoreOutline(o)
		wantPair(t, got, ok, bytesOf(o), true, "StoreOutline", o)
	}
	short, ok := impl.StoreOutline(outline("a", []complex64{0, 1, 1i}))
	wantPair(t, short[len(short)-2:], ok, "\xd3\xb9", true, "check number of StoreOutline")
	for _, o := range notOutlines() {
		got, ok := impl.StoreOutline(o)
		wantPair(t, got, ok, "", false, "StoreOutline", o)
	}
}

// Promise 8: outlines are loaded as they were stored.
func TestLoadOutline(t *testing.T) {
	s := newSource()
	outlines := someOutlines()
	for range 200 {
		outlines = append(outlines, s.outline())
	}
	for _, o := range outlines {
		stored, ok := impl.StoreOutline(o)
		if !ok {
			continue
		}
		got, ok := impl.LoadOutline(stored)
		wantOutline(t, got, ok, o, "LoadOutline")
		wantTrue(t, impl.SameOutlines([]impl.Outline{got}, []impl.Outline{o}), "SameOutlines of what was loaded", o)
	}
	for _, o := range notOutlines() {
		if len(o.Loops) < 100 && (len(o.Loops) == 0 || len(o.Loops[0]) < 100) && len(o.Name) < 100 {
			got, ok := impl.LoadOutline(bytesOf(o))
			wantNoOutline(t, got, ok, "LoadOutline of what is no outline", o)
		}
	}
}

// Promise 8: nothing is loaded of bytes that are cut off, or of which one is another one, or is missing, or is there in addition.
func TestLoadOutlineFails(t *testing.T) {
	for _, o := range []impl.Outline{tile(), outline("abcdefgh", []complex64{0, 1, 1i}, square())} {
		stored := bytesOf(o)
		for i := range len(stored) {
			got, ok := impl.LoadOutline(stored[:i])
			wantNoOutline(t, got, ok, "LoadOutline, cut off", i)
			got, ok = impl.LoadOutline(stored[i+1:])
			wantNoOutline(t, got, ok, "LoadOutline of the end", i)
			got, ok = impl.LoadOutline(stored[:i] + stored[i+1:])
			wantNoOutline(t, got, ok, "LoadOutline without", i)
			got, ok = impl.LoadOutline(stored[:i] + "\x00" + stored[i:])
			wantNoOutline(t, got, ok, "LoadOutline with another one", i)
			for change := range 255 {
				other := []byte(stored)
				other[i] ^= byte(change + 1)
				got, ok := impl.LoadOutline(string(other))
				wantNoOutline(t, got, ok, "LoadOutline, another byte", i, change)
			}
		}
		for _, more := range []string{"\x00", "x", "OUT1", stored, stored[:9], strings.Repeat("\x00", 1000)} {
			got, ok := impl.LoadOutline(stored + more)
			wantNoOutline(t, got, ok, "LoadOutline and more", more)
			got, ok = impl.LoadOutline(more + stored)
			wantNoOutline(t, got, ok, "more and LoadOutline", more)
		}
	}
	for _, s := range []string{
		"", "OUT1", "x", checked(""), checked("OUT1"), checked("OUT1\x01a"), checked("OUT1\x01a\x00"), checked("OUT1\x00\x00"), checked("OUT1\x01a\x01\x00"), checked("OUT1\xff"), checked("OUT1\x01a\xff"), checked("OUT1\x01a\x01\xff"),
		strings.Repeat("OUT1", 1000),
	} {
		got, ok := impl.LoadOutline(s)
		wantNoOutline(t, got, ok, "LoadOutline", s)
	}
	// Another mark, with the check number that belongs to it.
	stored := bytesOf(tile())
	for i := range 4 {
		other := []byte(stored[:len(stored)-2])
		other[i]++
		got, ok := impl.LoadOutline(checked(string(other)))
		wantNoOutline(t, got, ok, "LoadOutline, another mark", i)
	}
	// The check number is less than CheckSize, even if another one leaves the same remainder.
	low := []byte(bytesOf(outline("a", []complex64{0, 13, 1i})))
	check := int(low[len(low)-2]) + 256*int(low[len(low)-1]) + impl.CheckSize
	wantTrue(t, check < 65536, "check number", check)
	low[len(low)-2], low[len(low)-1] = byte(check), byte(check>>8)
	got, ok := impl.LoadOutline(string(low))
	wantNoOutline(t, got, ok, "LoadOutline, another check number")
}

// Promise 8: at most MaxOutlines outlines are stored one after another.
func TestStoreOutlines(t *testing.T) {
	none, ok := impl.StoreOutlines(nil)
	wantPair(t, none, ok, "", true, "StoreOutlines of none")
	want := ""
	for i, o := range someOutlines()[:8] {
		want += bytesOf(o)
		got, ok := impl.StoreOutlines(someOutlines()[:i+1])
		wantPair(t, got, ok, want, true, "StoreOutlines", i)
	}
	for _, count := range []int{9, 10, 100} {
		got, ok := impl.StoreOutlines(repeated(tile(), count))
		wantPair(t, got, ok, "", false, "StoreOutlines of too many", count)
	}
	for _, o := range notOutlines() {
		for _, list := range [][]impl.Outline{{o}, {tile(), o}, {o, tile()}} {
			got, ok := impl.StoreOutlines(list)
			wantPair(t, got, ok, "", false, "StoreOutlines", list)
		}
	}
}

func wantRecovered(t *testing.T, s string, want []impl.Outline, size int, what string, args ...any) {
	t.Helper()
	got, n, ok := impl.RecoverOutlines(s)
	if !ok || n != int64(size) || len(got) != len(want) {
		t.Errorf("%s%v: got %d outlines of %d bytes %v, want %d of %d", what, args, len(got), n, ok, len(want), size)
		return
	}
	for i, o := range got {
		wantOutline(t, o, ok, want[i], what, args...)
	}
}

// Promise 8: outlines are recovered as far as their bytes are whole.
func TestRecoverOutlines(t *testing.T) {
	list := []impl.Outline{tile(), frame(), outline("abcdefgh", []complex64{0, 1, 1i})}
	whole, ends := "", []int{0}
	for _, o := range list {
		whole += bytesOf(o)
		ends = append(ends, len(whole))
	}
	for cut := range len(whole) + 1 {
		count := 0
		for ends[count] <= cut && count < 3 && ends[count+1] <= cut {
			count++
		}
		wantRecovered(t, whole[:cut], list[:count], ends[count], "RecoverOutlines, cut off", cut)
	}
	for i := range whole {
		count := 0
		for ends[count+1] <= i {
			count++
		}
		for _, change := range []byte{1, 0x20, 0x80, 0xff} {
			other := []byte(whole)
			other[i] ^= change
			wantRecovered(t, string(other), list[:count], ends[count], "RecoverOutlines, another byte", i, change)
		}
	}
	for _, more := range []string{"\x00", "OUT1", "out", bytesOf(outline("", square())), bytesOf(outline("a", line(2))), strings.Repeat("\xff", 1000)} {
		wantRecovered(t, more, nil, 0, "RecoverOutlines of none", more)
		wantRecovered(t, whole+more, list, len(whole), "RecoverOutlines and more", more)
		wantRecovered(t, whole+more+whole, list, len(whole), "RecoverOutlines up to more", more)
	}
	one := bytesOf(tile())
	for _, count := range []int{1, 7, 8, 9, 20} {
		most := min(count, 8)
		wantRecovered(t, strings.Repeat(one, count), repeated(tile(), most), most*len(one), "RecoverOutlines of several", count)
	}
}

// Promise 8: what was stored is recovered, and what was recovered has these bytes.
func TestRecoveredBytes(t *testing.T) {
	s := newSource()
	for range 200 {
		bytes := s.bytes(s.below(11))
		list, size, ok := impl.RecoverOutlines(bytes)
		wantTrue(t, ok && len(list) <= 8, "RecoverOutlines", len(list))
		stored, ok := impl.StoreOutlines(list)
		wantPair(t, stored, ok, bytes[:size], true, "StoreOutlines of what was recovered")
		if len(list) < 8 {
			// There is no other one behind them.
			for end := size; end <= int64(len(bytes)); end++ {
				_, ok := impl.LoadOutline(bytes[size:end])
				wantEqual(t, ok, false, "LoadOutline behind what was recovered")
			}
		}
	}
}
