package crc_test

import (
	"bytes"
	"hash/crc32"
	"math/bits"
	"slices"
	"strings"
	"testing"

	"gerund/crc"
)

const (
	all    = 1<<32 - 1
	turner = 0xedb88320
)

// sumOf is the sum of bytes, by other means: bit by bit.
func sumOf(b []byte) uint32 {
	s := uint32(all)
	for at := range 8 * len(b) {
		unlike := s&1 != uint32(b[at/8]>>(at%8)&1)
		s /= 2
		if unlike {
			s ^= turner
		}
	}
	return all - s
}

// frameOf is the frame of bytes, by other means.
func frameOf(b []byte) []byte {
	s := sumOf(b)
	return slices.Concat(b, []byte{byte(s % 256), byte(s / 256 % 256), byte(s / 65536 % 256), byte(s / 16777216)})
}

// turned is bytes of which those bits are turned that the pattern has, its lowest one laid on bit at.
func turned(b []byte, at int, pattern uint64) []byte {
	l := slices.Clone(b)
	for ; pattern != 0; pattern &= pattern - 1 {
		bit := at + bits.TrailingZeros64(pattern)
		l[bit/8] ^= 1 << (bit % 8)
	}
	return l
}

// drawer is words that look like drawn ones.
type drawer uint64

func (d *drawer) word() uint32 {
	*d = *d*6364136223846793005 + 1442695040888963407
	return uint32(*d >> 32)
}

// some is so many bytes that look like drawn ones.
func (d *drawer) some(size int) []byte {
	l := make([]byte, size)
	for i := range l {
		l[i] = byte(d.word() >> 8)
	}
	return l
}

// lists are no bytes, each byte by itself, bytes that are all alike, and many others, short ones and long ones.
func lists() [][]byte {
	l := [][]byte{nil, {}, []byte("123456789"), []byte("GRD1\x01\x00\x00\x00\x00"), {255, 255, 255, 255}, {0, 0, 0, 0, 0}}
	for c := range 256 {
		l = append(l, []byte{byte(c)}, []byte{byte(c), 0}, []byte{0, byte(c)}, []byte{7, byte(c), byte(255 - c)})
	}
	d := drawer(4)
	for size := range 100 {
		l = append(l, make([]byte, size), bytes.Repeat([]byte{255}, size), d.some(size), d.some(size))
	}
	return append(l, d.some(4095), d.some(4096), d.some(60000), d.some(1<<18+3))
}

// P4.1: sums that are told: the chapter's example, no bytes, and others that are known of this sum.
func TestSum(t *testing.T) {
	for text, s := range map[string]uint32{
		"":                         0,
		"123456789":                0xcbf43926,
		"a":                        0xe8b7be43,
		"abc":                      0x352441c2,
		"\x00":                     0xd202ef8d,
		"\xff":                     0xff000000,
		"\x00\x00\x00\x00":         0x2144df1c,
		"\xff\xff\xff\xff":         0xffffffff,
		strings.Repeat("\x00", 32): 0x190a55ad,
		strings.Repeat("\xff", 32): 0xff6cab0b,
		"The quick brown fox jumps over the lazy dog": 0x414fa339,
	} {
		if n := crc.Sum([]byte(text)); n != s {
			t.Errorf("%q: %x, not %x", text, n, s)
		}
	}
	if n := crc.Sum(nil); n != 0 {
		t.Errorf("no bytes: %x", n)
	}
}

// P4.1: the sums of many bytes, by other means.
func TestSumByOtherMeans(t *testing.T) {
	for _, b := range lists() {
		n := crc.Sum(b)
		if n != sumOf(b) || n != crc32.ChecksumIEEE(b) {
			t.Fatalf("%d bytes: %x, not %x", len(b), n, sumOf(b))
		}
	}
}

// P4.1: each two bytes have their sum.
func TestSumOfTwo(t *testing.T) {
	for n := range 1 << 16 {
		b := []byte{byte(n), byte(n >> 8)}
		if s := crc.Sum(b); s != sumOf(b) {
			t.Fatalf("% x: %x, not %x", b, s, sumOf(b))
		}
	}
}

// P4.1: a sum goes on behind others', wherever bytes are cut.
func TestMore(t *testing.T) {
	for _, b := range lists() {
		if len(b) > 100 {
			continue
		}
		for cut := range len(b) + 1 {
			if s := crc.More(sumOf(b[:cut]), b[cut:]); s != sumOf(b) {
				t.Fatalf("% x, cut at %d: %x, not %x", b, cut, s, sumOf(b))
			}
		}
	}
	nine := []byte("123456789")
	if s := crc.More(crc.More(crc.More(0, nine[:2]), nine[2:5]), nine[5:]); s != 0xcbf43926 {
		t.Errorf("%x", s)
	}
	byByte := uint32(0)
	for i := range nine {
		byByte = crc.More(byByte, nine[i:i+1])
	}
	if byByte != 0xcbf43926 {
		t.Errorf("%x", byByte)
	}
}

// P4.1: with no more bytes, a sum stays as it is, and behind no bytes it is that of the others alone.
func TestMoreOfNone(t *testing.T) {
	d := drawer(11)
	for range 1000 {
		s := d.word()
		if crc.More(s, nil) != s || crc.More(s, []byte{}) != s {
			t.Fatalf("%x: %x, %x", s, crc.More(s, nil), crc.More(s, []byte{}))
		}
	}
	for _, s := range []uint32{0, 1, 1 << 31, all - 1, all} {
		if crc.More(s, nil) != s {
			t.Errorf("%x: %x", s, crc.More(s, nil))
		}
	}
	for _, b := range lists() {
		if s := crc.More(0, b); s != sumOf(b) {
			t.Fatalf("%d bytes: %x, not %x", len(b), s, sumOf(b))
		}
	}
}

// P4.1: whatever number is handed in as a sum, it is gone on from there.
func TestMoreOfAnySum(t *testing.T) {
	d := drawer(12)
	sums := []uint32{0, 1, 15, 16, 255, 256, turner, 1 << 31, all - 1, all}
	for range 300 {
		sums = append(sums, d.word())
	}
	for i, s := range sums {
		b := d.some(i % 40)
		if n, want := crc.More(s, b), crc32.Update(s, crc32.IEEETable, b); n != want {
			t.Fatalf("%x, % x: %x, not %x", s, b, n, want)
		}
	}
}

// P4.1: a frame is bytes, and their sum, its lowest byte first.
func TestFrame(t *testing.T) {
	for text, f := range map[string]string{
		"":                 "\x00\x00\x00\x00",
		"123456789":        "123456789\x26\x39\xf4\xcb",
		"a":                "a\x43\xbe\xb7\xe8",
		"\x00":             "\x00\x8d\xef\x02\xd2",
		"\xff":             "\xff\x00\x00\x00\xff",
		"\x00\x00\x00\x00": "\x00\x00\x00\x00\x1c\xdf\x44\x21",
	} {
		if g := crc.Frame([]byte(text)); string(g) != f {
			t.Errorf("%q: %q, not %q", text, g, f)
		}
	}
	if g := crc.Frame(nil); string(g) != "\x00\x00\x00\x00" {
		t.Errorf("no bytes: % x", g)
	}
	for _, b := range lists() {
		if g := crc.Frame(b); !bytes.Equal(g, frameOf(b)) {
			t.Fatalf("%d bytes: another frame", len(b))
		}
	}
}

// P4.1: a frame is opened to its bytes, that of no bytes and that of a frame, too.
func TestOpen(t *testing.T) {
	for _, b := range lists() {
		f := frameOf(b)
		if g, ok := crc.Open(f); !ok || !bytes.Equal(g, b) {
			t.Fatalf("%d bytes: %v, %d bytes", len(b), ok, len(g))
		}
		if g, ok := crc.Open(frameOf(f)); !ok || !bytes.Equal(g, f) {
			t.Fatalf("a frame in a frame, %d bytes: %v, %d bytes", len(b), ok, len(g))
		}
	}
}

// P4.1: bytes that are shorter than any frame are none.
func TestOpenShort(t *testing.T) {
	if b, ok := crc.Open(nil); ok || len(b) != 0 {
		t.Error(b, ok)
	}
	for size := range 4 {
		for _, c := range []byte{0, 1, 127, 128, 255} {
			f := bytes.Repeat([]byte{c}, size)
			// What lies in the room behind them makes them no frame.
			room := append(slices.Clone(f), make([]byte, 8)...)[:size]
			for _, x := range [][]byte{f, room} {
				if b, ok := crc.Open(x); ok || len(b) != 0 {
					t.Error(x, b, ok)
				}
			}
		}
	}
}

// P4.1: of four bytes just those of the sum of no bytes are a frame.
func TestOpenFour(t *testing.T) {
	d := drawer(13)
	wrongs := []uint32{1, 128, 256, 1 << 16, 1 << 24, 1 << 31, all, turner}
	for range 1000 {
		wrongs = append(wrongs, d.word()|1)
	}
	for _, n := range wrongs {
		f := []byte{byte(n), byte(n >> 8), byte(n >> 16), byte(n >> 24)}
		if b, ok := crc.Open(f); ok || len(b) != 0 {
			t.Error(f, b, ok)
		}
	}
	if b, ok := crc.Open(make([]byte, 4)); !ok || len(b) != 0 {
		t.Error(b, ok)
	}
}

// P4.1: a byte with another one's sum is no frame, nor are bytes with their sum's bytes in another order.
func TestOpenOthersSum(t *testing.T) {
	for b := range 256 {
		for c := range 256 {
			f := frameOf([]byte{byte(c)})
			f[0] = byte(b)
			if g, ok := crc.Open(f); ok != (b == c) || ok != (len(g) == 1) {
				t.Fatal(b, c, g, ok)
			}
		}
	}
	f := frameOf([]byte("123456789"))
	slices.Reverse(f[9:])
	if g, ok := crc.Open(f); ok || len(g) != 0 {
		t.Error(g, ok)
	}
}

// P4.1: what is left of a frame that is cut, at its end or its front, is none, and so is one with a byte more.
func TestOpenCut(t *testing.T) {
	f := frameOf([]byte("123456789"))
	for size := range f {
		if b, ok := crc.Open(f[:size]); ok || len(b) != 0 {
			t.Error(size, b, ok)
		}
		if b, ok := crc.Open(f[size+1:]); ok || len(b) != 0 {
			t.Error(size, b, ok)
		}
	}
	for c := range 256 {
		if b, ok := crc.Open(append(slices.Clone(f), byte(c))); ok || len(b) != 0 {
			t.Error(c, b, ok)
		}
	}
}

// P4.1: any bytes are a frame just if the last four are the sum of those ahead of them.
func TestOpenAnyBytes(t *testing.T) {
	d := drawer(14)
	for n := range 20000 {
		f := d.some(4 + n%9)
		b, ok := crc.Open(f)
		if right := bytes.Equal(f, frameOf(f[:len(f)-4])); ok != right || !ok && len(b) != 0 {
			t.Fatal(f, b, ok)
		}
	}
}

// P4.1: what was handed in is as it was, its spare room too.
func TestArgumentsStay(t *testing.T) {
	for _, b := range lists() {
		for _, x := range [][]byte{b, frameOf(b)} {
			room := append(slices.Clone(x), 77, 78, 79, 80, 81, 82)
			before := slices.Clone(room)
			crc.Sum(room[:len(x)])
			crc.More(4711, room[:len(x)])
			crc.Frame(room[:len(x)])
			crc.Open(room[:len(x)])
			if !bytes.Equal(room, before) {
				t.Fatalf("%d bytes were changed", len(x))
			}
		}
	}
}

// P4.1: who writes into what was answered, or into its spare room, changes neither what was handed in nor a later answer.
func TestAnswersAreNew(t *testing.T) {
	for _, b := range lists() {
		f := frameOf(b)
		in, out := slices.Clone(b), slices.Clone(f)
		for range 2 {
			framed := crc.Frame(in)
			opened, ok := crc.Open(out)
			if !bytes.Equal(framed, f) || !ok || !bytes.Equal(opened, b) {
				t.Fatalf("%d bytes: another answer", len(b))
			}
			for _, answer := range [][]byte{framed, opened} {
				answer = answer[:cap(answer)]
				for i := range answer {
					answer[i] ^= 255
				}
			}
			if !bytes.Equal(in, b) || !bytes.Equal(out, f) {
				t.Fatalf("%d bytes were changed", len(b))
			}
		}
	}
}

// frames are those that bits are turned of: no bytes, one, some, such that begin and end with 0s, and many.
func frames() [][]byte {
	d := drawer(15)
	l := [][]byte{frameOf(nil), frameOf([]byte{0}), frameOf([]byte{255}), frameOf(make([]byte, 9)), frameOf(bytes.Repeat([]byte{255}, 9)), frameOf([]byte("123456789"))}
	for _, size := range []int{2, 3, 4, 5, 8, 31, 40} {
		l = append(l, frameOf(d.some(size)))
	}
	return l
}

// refused tells of a frame that was turned, and was taken.
func refused(t *testing.T, f []byte, at int, pattern uint64) {
	t.Helper()
	if b, ok := crc.Open(turned(f, at, pattern)); ok || len(b) != 0 {
		t.Fatalf("% x, turned at %d by %x: % x, %v", f, at, pattern, b, ok)
	}
}

// P4.2: one bit is turned, each of the frame.
func TestOneBitTurned(t *testing.T) {
	d := drawer(16)
	for _, f := range append(frames(), frameOf(d.some(300))) {
		for at := range 8 * len(f) {
			refused(t, f, at, 1)
		}
	}
}

// P4.2: two bits are turned, and all that follow each other from the one to the other one.
func TestRunsTurned(t *testing.T) {
	for _, f := range frames() {
		for at := range 8 * len(f) {
			for size := 2; size <= 32 && at+size <= 8*len(f); size++ {
				refused(t, f, at, 1|1<<(size-1))
				refused(t, f, at, 1<<size-1)
			}
		}
	}
}

// P4.2: any of eleven bits that follow each other are turned, one at least, wherever they stand.
func TestFewBitsTurned(t *testing.T) {
	for _, f := range [][]byte{frameOf(nil), frameOf([]byte("GRD1")), frameOf(make([]byte, 2))} {
		for at := range 8*len(f) - 10 {
			for pattern := uint64(1); pattern < 1<<11; pattern++ {
				refused(t, f, at, pattern)
			}
		}
	}
}

// P4.2: some bits among 32 that follow each other are turned: at the front, across the border of bytes and sum, at the end, and everywhere.
func TestBitsAmong32Turned(t *testing.T) {
	d := drawer(17)
	for _, f := range frames() {
		last := 8*len(f) - 32
		for at := range last + 1 {
			for range 40 {
				if pattern := uint64(d.word()); pattern != 0 {
					refused(t, f, at, pattern)
				}
			}
			for _, pattern := range []uint64{1, 1 << 31, 1<<31 + 1, all, 0x55555555, 0xaaaaaaaa, turner, bits.Reverse64(turner) >> 32} {
				refused(t, f, at, pattern)
			}
		}
		for _, at := range []int{0, min(1, last), max(last-16, 0), max(last-1, 0), last} {
			for range 2000 {
				refused(t, f, at, uint64(d.word()|1<<(d.word()%32)))
			}
		}
	}
}

// P4.2: no further than 32 bits: what comes of edb88320 and a bit ahead of it, 33 that follow each other, makes another frame.
func TestBitsAmong33Turned(t *testing.T) {
	for _, f := range frames() {
		for at := range max(8*len(f)-32, 0) {
			g := turned(f, at, turner<<1|1)
			b, ok := crc.Open(g)
			if !ok || !bytes.Equal(b, g[:len(g)-4]) {
				t.Fatalf("% x, turned at %d: % x, %v", f, at, b, ok)
			}
		}
	}
}
