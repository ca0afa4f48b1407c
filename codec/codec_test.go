package codec_test

import (
	"bytes"
	"testing"

	"throng/api"
	"throng/codec"
	"throng/fnv"
)

// written returns an encoding with two hashes.
func written() []byte {
	var w codec.Writer
	w.Add('A', 'B')
	w.Num(300)
	w.Int(-7)
	w.Raw([]byte{1, 2, 3})
	w.Hash()
	w.Word(0x0102030405060708)
	w.Hash()
	return w.Bytes()
}

// read reads it.
func read(b []byte) *codec.Reader {
	r := codec.Open(b)
	r.Sign('A', 'B')
	r.Num(0, 300)
	r.Int(-7, 7)
	r.Raw()
	r.Hash()
	r.Word()
	r.Hash()
	r.End()
	return r
}

func TestWriteAndRead(t *testing.T) {
	b := written()
	if r := read(b); r.Error() != api.OK || r.Size() != len(b) {
		t.Fatalf("error %d, size %d", r.Error(), r.Size())
	}
	end := len(b) - 8
	sum := fnv.Sum(fnv.Start(), b[:end])
	for i, x := range b[end:] {
		if x != byte(sum>>(8*i)) {
			t.Fatalf("byte %d of the hash is %d", i, x)
		}
	}
	if w := b[end-8 : end]; !bytes.Equal(w, []byte{8, 7, 6, 5, 4, 3, 2, 1}) {
		t.Fatalf("a word is written as %v", w)
	}
}

func TestCutAndChanged(t *testing.T) {
	b := written()
	for i := range b {
		if e := read(b[:i]).Error(); e != api.ErrCut {
			t.Errorf("cut at %d: %d", i, e)
		}
		c := bytes.Clone(b)
		c[i] ^= 1
		if e := read(c).Error(); e == api.OK {
			t.Errorf("byte %d changed: no error", i)
		}
	}
	if e := read(append(b, 0)).Error(); e != api.ErrForm {
		t.Errorf("a byte more: %d", e)
	}
}

func TestRanges(t *testing.T) {
	for n := range 10 {
		want := api.OK
		if n < 3 || n > 6 {
			want = api.ErrForm
		}
		r := codec.Open([]byte{byte(n)})
		if got := r.Num(3, 6); r.Error() != want || want == api.OK && got != n || want != api.OK && got != 0 {
			t.Errorf("Num of %d: %d, %d", n, got, r.Error())
		}
		r = codec.Open([]byte{byte(2 * n)})
		if got := r.Int(3, 6); r.Error() != want || want == api.OK && got != n {
			t.Errorf("Int of %d: %d, %d", n, got, r.Error())
		}
		r = codec.Open([]byte{byte(n)})
		if got := r.Byte(3, 6); r.Error() != want || want == api.OK && got != byte(n) {
			t.Errorf("Byte of %d: %d, %d", n, got, r.Error())
		}
	}
}

func TestFirstErrorStays(t *testing.T) {
	r := codec.Open([]byte{1, 2})
	r.Fail()
	r.Byte(0, 255)
	r.Num(0, 9)
	r.Take(1, api.ErrCut)
	if r.Error() != api.ErrForm || r.Size() != 0 || r.More() || r.Word() != 0 || len(r.Raw()) > 0 {
		t.Errorf("error %d, size %d", r.Error(), r.Size())
	}
}
