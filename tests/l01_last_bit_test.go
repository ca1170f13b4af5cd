package tests

import (
	"math"
	"testing"

	"loop.example/g01328/impl"
)

const manyNumbers = 40000

// manyWords are 32-bit words that follow a short rule.
func manyWords() []uint32 {
	list := make([]uint32, manyNumbers)
	word := uint32(1328)
	for i := range list {
		word = word*1664525 + 1013904223
		list[i] = word
	}
	return list
}

// place makes an exact number from -2 to 2 of a word.
func place(word uint32) float32 { return float32(word>>8)/0x1p22 - 2 }

func fingerprint(words []uint32) uint32 {
	sum := uint32(0)
	for _, word := range words {
		sum = 859*sum + word + 151
	}
	return sum
}

// Promises 1 and 2: results are told to the last bit, for many arguments.
// The fingerprints were computed from the document's text by another program, in another language.
func TestToTheLastBit(t *testing.T) {
	words := manyWords()
	for _, c := range []struct {
		name string
		want uint32
		bits func(i int) []uint32
	}{
		{"SineTurns", 3495168076, func(i int) []uint32 {
			return []uint32{bitsOf(impl.SineTurns(place(words[i])))}
		}},
		{"PhasorOf", 987701985, func(i int) []uint32 {
			z := impl.PhasorOf(float64(place(words[i])))
			return []uint32{bitsOf(real(z)), bitsOf(imag(z))}
		}},
		{"AngleTurns", 2040676351, func(i int) []uint32 {
			if i+1 == len(words) {
				return nil
			}
			return []uint32{bitsOf(impl.AngleTurns(place(words[i]), place(words[i+1])))}
		}},
		{"LogNumber", 3999453931, func(i int) []uint32 {
			return []uint32{bitsOf(impl.LogNumber(place(words[i]) + 2))}
		}},
		{"LogNumber of any size", 3314067102, func(i int) []uint32 {
			return []uint32{bitsOf(impl.LogNumber(math.Float32frombits(words[i] >> 1)))}
		}},
		{"TenthsOf", 1336191377, func(i int) []uint32 {
			tenths, _ := impl.TenthsOf(math.Float32frombits(words[i] >> 1))
			return []uint32{uint32(tenths)}
		}},
		{"ExpNumber", 278843860, func(i int) []uint32 {
			return []uint32{bitsOf(impl.ExpNumber(32 * place(words[i])))}
		}},
	} {
		var all []uint32
		for i := range words {
			all = append(all, c.bits(i)...)
		}
		wantEqual(t, fingerprint(all), c.want, "fingerprint of", c.name)
	}
}
