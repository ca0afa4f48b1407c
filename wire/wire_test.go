package wire_test

import (
	"bytes"
	"encoding/binary"
	"math"
	"testing"

	"throng/api"
	"throng/wire"
)

// numbers returns numbers from 0 on, at the edges and without a pattern.
func numbers() []int {
	l := []int{0, 1, 2, 127, 128, 129, 255, 300, 1<<62 - 1, 1 << 62, 1<<62 + 1, math.MaxInt - 1, math.MaxInt}
	for i := 1; i < 9; i++ {
		l = append(l, 1<<(7*i)-1, 1<<(7*i), 1<<(7*i)+1)
	}
	seed := uint64(9)
	for range 300 {
		seed = seed*6364136223846793005 + 1442695040888963407
		l = append(l, int(seed>>1>>(seed>>58)))
	}
	return l
}

// P4.1, P4.2, P4.3
func TestNum(t *testing.T) {
	for _, n := range numbers() {
		b, e := wire.Num(n)
		if want := binary.AppendUvarint(nil, uint64(n)); e != api.OK || !bytes.Equal(b, want) {
			t.Fatalf("Num(%d) %v, %d, want %v", n, b, e, want)
		}
		for i := range b {
			if m, size, e := wire.GetNum(b[:i]); m != 0 || size != 0 || e != api.ErrCut {
				t.Fatalf("GetNum(%v) %d, %d, %d", b[:i], m, size, e)
			}
		}
		if m, size, e := wire.GetNum(append(b, 0x80, 5)); m != n || size != len(b) || e != api.OK {
			t.Fatalf("GetNum of Num(%d) %d, %d, %d", n, m, size, e)
		}
	}
	for _, n := range []int{-1, -5, math.MinInt} {
		if b, e := wire.Num(n); len(b) > 0 || e != api.ErrForm {
			t.Errorf("Num(%d) %v, %d", n, b, e)
		}
	}
}

// P4.1, P4.2, P4.3
func TestInt(t *testing.T) {
	for _, n := range numbers() {
		for _, n := range []int{n, -n, -n - 1} {
			b, e := wire.Int(n)
			if n < -1<<62 || n >= 1<<62 {
				if len(b) > 0 || e != api.ErrLimit {
					t.Fatalf("Int(%d) %v, %d", n, b, e)
				}
				continue
			}
			if want := binary.AppendVarint(nil, int64(n)); e != api.OK || !bytes.Equal(b, want) {
				t.Fatalf("Int(%d) %v, %d, want %v", n, b, e, want)
			}
			for i := range b {
				if m, size, e := wire.GetInt(b[:i]); m != 0 || size != 0 || e != api.ErrCut {
					t.Fatalf("GetInt(%v) %d, %d, %d", b[:i], m, size, e)
				}
			}
			if m, size, e := wire.GetInt(append(b, 0)); m != n || size != len(b) || e != api.OK {
				t.Fatalf("GetInt of Int(%d) %d, %d, %d", n, m, size, e)
			}
		}
	}
	if b, e := wire.Int(-1); e != api.OK || !bytes.Equal(b, []byte{1}) {
		t.Errorf("Int(-1) %v, %d", b, e)
	}
}

// wrong asks GetNum, GetInt and GetRaw for one error.
func wrong(t *testing.T, b []byte, want api.Errno) {
	t.Helper()
	if n, size, e := wire.GetNum(b); n != 0 || size != 0 || e != want {
		t.Errorf("GetNum(%v) %d, %d, %d, want %d", b, n, size, e, want)
	}
	if n, size, e := wire.GetInt(b); n != 0 || size != 0 || e != want {
		t.Errorf("GetInt(%v) %d, %d, %d, want %d", b, n, size, e, want)
	}
	if x, size, e := wire.GetRaw(b); len(x) > 0 || size != 0 || e != want {
		t.Errorf("GetRaw(%v) %v, %d, %d, want %d", b, x, size, e, want)
	}
}

// P4.2
func TestWrongNumbers(t *testing.T) {
	for n := range 9 {
		wrong(t, bytes.Repeat([]byte{0x80}, n), api.ErrCut)
		wrong(t, bytes.Repeat([]byte{0xff}, n), api.ErrCut)
		if n > 0 {
			wrong(t, append(bytes.Repeat([]byte{0xff}, n), 0), api.ErrForm)
			wrong(t, append(bytes.Repeat([]byte{0x80}, n), 0, 1), api.ErrForm)
		}
	}
	wrong(t, bytes.Repeat([]byte{0x80}, 9), api.ErrForm)
	wrong(t, bytes.Repeat([]byte{0xff}, 9), api.ErrForm)
	wrong(t, binary.AppendUvarint(nil, 1<<63), api.ErrForm)
	wrong(t, binary.AppendUvarint(nil, math.MaxUint64), api.ErrForm)
	wrong(t, bytes.Repeat([]byte{0x80}, 40), api.ErrForm)
}

// P4.1, P4.2, P4.3
func TestRaw(t *testing.T) {
	for _, n := range []int{0, 1, 127, 128, 1000, api.MaxBytes - 1, api.MaxBytes} {
		b := bytes.Repeat([]byte{200, 1, 7}, n)[:n]
		x, e := wire.Raw(b)
		if want := append(binary.AppendUvarint(nil, uint64(n)), b...); e != api.OK || !bytes.Equal(x, want) {
			t.Fatalf("Raw of %d bytes: %d", n, e)
		}
		for i := 0; i < len(x); i += 1 + len(x)/400 {
			if y, size, e := wire.GetRaw(x[:i]); len(y) > 0 || size != 0 || e != api.ErrCut {
				t.Fatalf("GetRaw of %d of %d bytes: %d", i, len(x), e)
			}
		}
		for _, more := range [][]byte{nil, {9}} {
			y, size, e := wire.GetRaw(append(bytes.Clone(x), more...))
			if e != api.OK || size != len(x) || !bytes.Equal(y, b) {
				t.Fatalf("GetRaw of %d bytes: %d, %d", n, size, e)
			}
		}
	}
	if x, e := wire.Raw(make([]byte, api.MaxBytes+1)); len(x) > 0 || e != api.ErrLimit {
		t.Errorf("Raw of too many: %d", e)
	}
	wrongRaw := binary.AppendUvarint(nil, api.MaxBytes+1)
	if x, size, e := wire.GetRaw(append(wrongRaw, make([]byte, api.MaxBytes+1)...)); len(x) > 0 || size != 0 || e != api.ErrForm {
		t.Errorf("GetRaw of too many: %d", e)
	}
	if _, _, e := wire.GetRaw(wrongRaw); e != api.ErrForm {
		t.Errorf("GetRaw of too many, cut: %d", e)
	}
}

// R2
func TestRawIsNew(t *testing.T) {
	b := []byte{2, 5, 6, 7}
	x, _, _ := wire.GetRaw(b)
	x[0] = 0
	_ = append(x, 9)
	if !bytes.Equal(b, []byte{2, 5, 6, 7}) {
		t.Errorf("GetRaw handed out what it was given: %v", b)
	}
	y, _ := wire.Raw(b)
	y[1] = 0
	if b[0] != 2 {
		t.Error("Raw handed out what it was given")
	}
}
