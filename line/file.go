package line

import "quicksilver/api"

// Write returns the file of a line and its words.
func Write(l api.LnLine, words []int) ([]byte, api.Errno) {
	if e := Check(l); e != api.OK {
		return nil, e
	}
	if e := wordsError(l, words); e != api.OK {
		return nil, e
	}
	file := []byte{'M', 'L', byte(l.Words), byte(l.Bits)}
	for _, word := range words {
		for range bytesOf(l.Bits) {
			file = append(file, byte(word))
			word >>= 8
		}
	}
	return append(file, -sum(file)), api.OK
}

// Read returns the words of a file.
func Read(file []byte) (count, bits int, words []int, e api.Errno) {
	if len(file) > api.MaxLnFile {
		return 0, 0, nil, api.ErrLong
	}
	defer func() {
		if recover() != nil {
			count, bits, words, e = 0, 0, nil, api.ErrForm
		}
	}()
	r := reader{rest: file}
	r.must(sum(file) == 0)
	r.number(1, 'M', 'M')
	r.number(1, 'L', 'L')
	count = r.number(1, 1, api.MaxLnWords)
	bits = r.number(1, 1, api.MaxLnBits)
	for range count {
		words = append(words, r.number(bytesOf(bits), 0, 1<<bits-1))
	}
	r.number(1, 0, 255)
	r.must(len(r.rest) == 0)
	return count, bits, words, api.OK
}

// reader takes the bytes of a file from its front, and panics if they have not the form.
type reader struct{ rest []byte }

func (r *reader) must(ok bool) {
	if !ok {
		panic(api.ErrForm)
	}
}

// number takes a number of some bytes, which is from lo to hi.
func (r *reader) number(size, lo, hi int) int {
	r.must(len(r.rest) >= size)
	n := 0
	for i, b := range r.rest[:size] {
		n |= int(b) << (8 * i)
	}
	r.must(within(n, lo, hi))
	r.rest = r.rest[size:]
	return n
}

// bytesOf returns how many bytes some bits need.
func bytesOf(bits int) int { return (bits + 7) / 8 }

// sum returns the sum of bytes modulo 256.
func sum(file []byte) byte {
	var s byte
	for _, b := range file {
		s += b
	}
	return s
}
