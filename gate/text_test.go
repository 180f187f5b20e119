package gate_test

import (
	"math/rand"
	"slices"
	"strings"
	"testing"

	"quicksilver/api"
	"quicksilver/gate"
)

const adderText = "inputs 2\ndelay 7\nxor 0 1\nxor 3 2\nand 0 1\nand 3 2\nor 5 6\noutputs 4\n"

// P2.7
func TestWrite(t *testing.T) {
	long := net(6, []int{29, 28, 27, 26})
	text := "inputs 6\n"
	for range 24 {
		long.Gates = append(long.Gates, g(2, 5, 0))
		text += "or 5 0\n"
	}
	for _, c := range []struct {
		n    api.GaNet
		text string
	}{
		{adder(), adderText},
		{net(1, []int{0}), "inputs 1\noutputs 0\n"},
		{net(6, []int{7, 0, 7, 6}, g(4, 5, 0), g(5, 6, 0)), "inputs 6\nnot 5\ndelay 6\noutputs 7 0 7 6\n"},
		{net(6, []int{0, 0}, g(5, 6, 0)), "inputs 6\ndelay 6\noutputs 0 0\n"},
		{long, text + "outputs 29 28 27 26\n"},
	} {
		text, e := gate.Write(c.n)
		n, f := gate.Read(c.text)
		if text != c.text || e != api.OK || !same(n, c.n) || f != api.OK {
			t.Errorf("Write of %v: %q, %d; Read: %v, %d", c.n, text, e, n, f)
		}
	}
}

// P2.7: texts that are those of no net.
func TestReadErrors(t *testing.T) {
	bad := []string{
		"", "\n", " ", "inputs 2", "inputs 2\n", "outputs 0\n", "outputs 0\ninputs 1\n",
		"inputs 1\noutputs\n", "inputs 1\noutputs \n", "inputs 1\noutputs 0", "inputs 1\noutputs 0\n\n", "\ninputs 1\noutputs 0\n",
		"inputs 1\n\noutputs 0\n", "inputs 1\noutputs 0\n ", "inputs 1\noutputs 0\noutputs 0\n", "inputs 1\ninputs 1\noutputs 0\n",
		"inputs 1\noutputs 0\nnot 0\n", "inputs 1\noutputs 0\r\n", "inputs 1\r\noutputs 0\n", "inputs 1\n\x00outputs 0\n",
		"inputs\noutputs 0\n", "inputs \noutputs 0\n", "inputs 0\noutputs 0\n", "inputs 7\noutputs 0\n", "inputs 1 1\noutputs 0\n", "inputs x\noutputs 0\n",
		"inputs 01\noutputs 0\n", "inputs +1\noutputs 0\n", "inputs -1\noutputs 0\n", "inputs 1.\noutputs 0\n", "inputs 0x1\noutputs 0\n", "inputs 1_\noutputs 0\n",
		"inputs 1 \noutputs 0\n", "inputs  1\noutputs 0\n", " inputs 1\noutputs 0\n", "inputs\t1\noutputs 0\n", "inputs1\noutputs 0\n",
		"Inputs 1\noutputs 0\n", "input 1\noutputs 0\n", "inputs 1\noutput 0\n", "inputs 1\nOutputs 0\n", "outputs 1\noutputs 0\n", "and 1\noutputs 0\n",
		"inputs 1\noutputs 1\n", "inputs 1\noutputs -1\n", "inputs 1\noutputs -0\n", "inputs 1\noutputs 00\n", "inputs 1\noutputs 0 0 0 0 0\n", "inputs 1\noutputs 0  0\n", "inputs 1\noutputs 0 \n",
		"inputs 1\noutputs 18446744073709551616\n", "inputs 18446744073709551617\noutputs 0\n", "inputs 1\noutputs 9223372036854775808\n",
		"inputs 1\nnot\noutputs 0\n", "inputs 1\nnot 0 0\noutputs 0\n", "inputs 1\nnot 1\noutputs 0\n", "inputs 1\nnot -1\noutputs 0\n", "inputs 1\nnot +0\noutputs 0\n", "inputs 1\nnot 00\noutputs 0\n",
		"inputs 1\nnot  0\noutputs 0\n", "inputs 1\nnot 0 \noutputs 0\n", "inputs 1\n not 0\noutputs 0\n", "inputs 1\nNot 0\noutputs 0\n", "inputs 1\nnand 0 0\noutputs 0\n",
		"inputs 1\n 0 0\noutputs 0\n", "inputs 1\n 0\noutputs 0\n", "inputs 1\n0 0\noutputs 0\n",
		"inputs 1\nand 0\noutputs 0\n", "inputs 1\nor 0\noutputs 0\n", "inputs 1\nxor 0\noutputs 0\n", "inputs 1\nand 0 0 0\noutputs 0\n", "inputs 1\nand 0 1\noutputs 0\n", "inputs 1\nor 1 0\noutputs 0\n", "inputs 1\nxor 0,0\noutputs 0\n",
		"inputs 1\ndelay 2\noutputs 0\n", "inputs 1\ndelay\noutputs 0\n", "inputs 1\ndelay 0 0\noutputs 0\n",
		"inputs 1\n" + strings.Repeat("delay 0\n", 6) + "outputs 0\n", "inputs 1\n" + strings.Repeat("not 0\n", 25) + "outputs 0\n",
		strings.Repeat("x", 600), strings.Repeat("\n", 600), strings.Repeat(" ", 600), "inputs 1\n" + strings.Repeat("not 0\n", 95) + "outputs 0\n",
		"inputs 1\noutputs " + strings.Repeat("9", 500) + "\n",
		// Nothing that is behind a text belongs to it.
		adderText + strings.Repeat(" ", 600-len(adderText)),
	}
	for _, text := range bad {
		if n, e := gate.Read(text); e != api.ErrForm || !isZero(n) {
			t.Errorf("Read of %q: %v, %d", text, n, e)
		}
	}
	for _, text := range []string{strings.Repeat("x", 601), strings.Repeat("\n", 100000), adderText + strings.Repeat(" ", 601-len(adderText))} {
		if n, e := gate.Read(text); e != api.ErrLong || !isZero(n) {
			t.Errorf("Read of %d bytes: %v, %d", len(text), n, e)
		}
	}
}

// P2.14: what is written is read.
func TestReadBack(t *testing.T) {
	r := rand.New(rand.NewSource(14))
	for range 5000 {
		n := anyNet(r)
		text, e := gate.Write(n)
		again, f := gate.Read(text)
		if e != api.OK || f != api.OK || !same(n, again) {
			t.Fatalf("Read of Write of %v: %v, %d, %d", n, again, e, f)
		}
	}
}

// P2.14: whatever text can be read, writing it gives the same text.
func TestWriteBack(t *testing.T) {
	r := rand.New(rand.NewSource(15))
	read := 0
	bytes := []byte("0123456789 \n+-_andorxtelyi")
	for range 50000 {
		good, _ := gate.Write(someNet(r, 1+r.Intn(6), 1+r.Intn(4), 6, 3))
		text := []byte(good)
		for range 1 + r.Intn(2) {
			at := r.Intn(len(text))
			switch r.Intn(3) {
			case 0:
				text = slices.Delete(text, at, at+1)
			case 1:
				text = slices.Insert(text, at, bytes[r.Intn(len(bytes))])
			case 2:
				text[at] = bytes[r.Intn(len(bytes))]
			}
		}
		n, e := gate.Read(string(text))
		if e != api.OK {
			if e != api.ErrForm || !isZero(n) {
				t.Fatalf("Read of %q: %v, %d", text, n, e)
			}
			continue
		}
		read++
		if again, f := gate.Write(n); again != string(text) || f != api.OK {
			t.Fatalf("Write of Read of %q: %q, %d", text, again, f)
		}
	}
	if read < 300 {
		t.Errorf("only %d texts could be read", read)
	}
}
