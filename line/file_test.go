package line_test

import (
	"bytes"
	"math/rand"
	"slices"
	"testing"

	"quicksilver/api"
	"quicksilver/line"
)

// sized is a line of so many words and bits.
func sized(words, bits int) api.LnLine { return api.LnLine{Words: words, Bits: bits, Period: 2} }

// summed returns bytes with the last one that makes their sum divisible by 256.
func summed(file ...byte) []byte {
	var sum byte
	for _, b := range file {
		sum += b
	}
	return append(file, -sum)
}

// P1.8
func TestWrite(t *testing.T) {
	for _, c := range []struct {
		l     api.LnLine
		words []int
		want  []byte
		e     api.Errno
	}{
		{lineA(), []int{1, 128, 0, 255}, []byte{77, 76, 4, 8, 1, 128, 0, 255, 219}, api.OK},
		{sized(1, 9), []int{511}, summed(77, 76, 1, 9, 255, 1), api.OK},
		{sized(1, 8), []int{94}, []byte{77, 76, 1, 8, 94, 0}, api.OK},
		{sized(2, 1), []int{1, 0}, summed(77, 76, 2, 1, 1, 0), api.OK},
		{sized(1, 16), []int{0x1234}, summed(77, 76, 1, 16, 0x34, 0x12), api.OK},
		{sized(1, 17), []int{0x1ABCD}, summed(77, 76, 1, 17, 0xCD, 0xAB, 1), api.OK},
		{sized(1, 40), []int{0x123456789A}, summed(77, 76, 1, 40, 0x9A, 0x78, 0x56, 0x34, 0x12), api.OK},
		{lineA(), []int{1, 128, 0}, nil, api.ErrLong},
		{lineA(), []int{1, 128, 0, -1, 0}, nil, api.ErrLong},
		{lineA(), nil, nil, api.ErrLong},
		{lineA(), []int{1, 128, 0, 256}, nil, api.ErrRange},
		{lineA(), []int{1, -1, 0, 0}, nil, api.ErrRange},
		{sized(1, 40), []int{1 << 40}, nil, api.ErrRange},
	} {
		if file, e := line.Write(c.l, c.words); !bytes.Equal(file, c.want) || e != c.e {
			t.Errorf("Write of %v with %v: %v, %d", c.words, c.l, file, e)
		}
	}
}

// P1.8
func TestReadErrors(t *testing.T) {
	good := []byte{77, 76, 4, 8, 1, 128, 0, 255, 219}
	bad := [][]byte{
		nil,
		{0},
		summed(77),
		summed(77, 76),
		summed(77, 76, 4),
		summed(77, 76, 1, 8),
		summed(77, 76, 4, 8, 1, 128, 0),
		summed(77, 76, 4, 8, 1, 128, 0, 255, 0),
		append(slices.Clone(good), 0),
		good[:8],
		{77, 76, 4, 8, 1, 128, 0, 255, 220},
		{76, 77, 4, 8, 1, 128, 0, 255, 219},
		summed(78, 76, 4, 8, 1, 128, 0, 255),
		summed(77, 77, 4, 8, 1, 128, 0, 255),
		summed(77, 76, 0, 8),
		summed(append([]byte{77, 76, 65, 1}, make([]byte, 65)...)...),
		summed(77, 76, 1, 0),
		summed(77, 76, 1, 0, 0),
		summed(77, 76, 1, 41, 0, 0, 0, 0, 0, 0),
		summed(77, 76, 1, 1, 2),
		summed(77, 76, 1, 9, 0, 2),
		summed(77, 76, 2, 7, 0, 128),
		make([]byte, 400),
	}
	for _, file := range bad {
		if n, bits, words, e := line.Read(file); n != 0 || bits != 0 || len(words) > 0 || e != api.ErrForm {
			t.Errorf("Read of %v: %d, %d, %v, %d", file, n, bits, words, e)
		}
	}
	for _, size := range []int{401, 100000} {
		if n, bits, words, e := line.Read(make([]byte, size)); n != 0 || bits != 0 || len(words) > 0 || e != api.ErrLong {
			t.Errorf("Read of %d bytes: %d, %d, %v, %d", size, n, bits, words, e)
		}
	}
}

// P1.8 and P1.14: what is written is read, in lines of all sizes, and the other way round; no byte can be another one.
func TestReadBack(t *testing.T) {
	r := rand.New(rand.NewSource(14))
	for words := 1; words <= 64; words++ {
		for bits := 1; bits <= 40; bits++ {
			l := sized(words, bits)
			want := someWords(r, l)
			want[r.Intn(words)] = 1<<bits - 1
			file, e := line.Write(l, want)
			count, size, got, f := line.Read(file)
			if e != api.OK || f != api.OK || count != words || size != bits || !slices.Equal(got, want) {
				t.Fatalf("Read of Write of %v with %v: %d, %d, %v, %d, %d", want, l, count, size, got, e, f)
			}
			if again, e := line.Write(sized(count, size), got); !bytes.Equal(again, file) || e != api.OK {
				t.Fatalf("Write of Read of %v: %v, %d", file, again, e)
			}
			at := r.Intn(len(file))
			file[at] += byte(1 + r.Intn(255))
			if _, _, _, e := line.Read(file); e != api.ErrForm {
				t.Fatalf("Read of %v, with another byte %d: %d", file, at, e)
			}
		}
	}
}

// P1.14: each byte of a file as each other one.
func TestReadEachByte(t *testing.T) {
	for _, l := range []api.LnLine{lineA(), sized(1, 9), sized(3, 1)} {
		file, _ := line.Write(l, make([]int, l.Words))
		for at := range file {
			for other := range 255 {
				changed := slices.Clone(file)
				changed[at] += byte(1 + other)
				if n, bits, words, e := line.Read(changed); n != 0 || bits != 0 || len(words) > 0 || e != api.ErrForm {
					t.Errorf("Read of %v: %d, %d, %v, %d", changed, n, bits, words, e)
				}
			}
		}
	}
}

// P1.14: whatever bytes can be read, writing them gives the same bytes.
func TestWriteBack(t *testing.T) {
	r := rand.New(rand.NewSource(15))
	read := 0
	for range 20000 {
		body := []byte{77, 76, byte(r.Intn(4)), byte(r.Intn(18))}
		for range r.Intn(9) {
			body = append(body, byte(r.Intn(4)))
		}
		file := summed(body...)
		count, bits, words, e := line.Read(file)
		if e != api.OK {
			continue
		}
		read++
		if again, e := line.Write(sized(count, bits), words); !bytes.Equal(again, file) || e != api.OK {
			t.Fatalf("Write of Read of %v: %v, %d", file, again, e)
		}
	}
	if read < 100 {
		t.Errorf("only %d files could be read", read)
	}
}
