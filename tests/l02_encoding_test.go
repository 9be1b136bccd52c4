package tests

import (
	"bytes"
	"encoding/binary"
	"math"
	"math/rand"
	"slices"
	"testing"

	"loop.example/g03006/impl"
)

// spareMark fills the spare capacity of the arguments made by withSpare.
const spareMark = 0x5a

// withSpare returns b in an array that goes on behind it.
func withSpare(b []byte) []byte {
	whole := append(bytes.Clone(b), bytes.Repeat([]byte{spareMark}, 24)...)
	return whole[:len(b)]
}

// wantUntouched checks that arg, made by withSpare, is still want with its marks behind it.
func wantUntouched(t *testing.T, name string, arg []byte, want []byte) {
	t.Helper()
	spare := arg[len(arg):cap(arg)]
	if !bytes.Equal(arg, want) || len(spare) < 24 || !bytes.Equal(spare[:24], bytes.Repeat([]byte{spareMark}, 24)) {
		t.Errorf("%s changed its argument % x to % x with % x behind it", name, want, arg, spare)
	}
}

// scribble overwrites b and its spare capacity.
func scribble(b []byte) {
	b = b[:cap(b)]
	for i := range b {
		b[i] ^= 0xff
	}
}

// leb128 is the oracle for the varint of n.
func leb128(n int) []byte {
	return binary.AppendUvarint(nil, uint64(n))
}

// leb128At is the oracle for ReadUvarint: what is read there must be just what is written for it.
func leb128At(b []byte, offset int) (int, int, bool) {
	if offset < 0 || offset > len(b) {
		return 0, 0, false
	}
	n, size := binary.Uvarint(b[offset:])
	if size <= 0 || n > impl.MaxValue || size != len(leb128(int(n))) {
		return 0, 0, false
	}
	return int(n), offset + size, true
}

func wantUvarint(t *testing.T, b []byte, offset int, want int, wantNext int, wantOK bool) {
	t.Helper()
	if n, next, ok := impl.ReadUvarint(b, offset); n != want || next != wantNext || ok != wantOK {
		t.Errorf("ReadUvarint(% x, %d) = %d, %d, %v; want %d, %d, %v", b, offset, n, next, ok, want, wantNext, wantOK)
	}
}

// values are integers in range, at each change of the length of their varints.
func values() []int {
	list := []int{0, 1, 2, 5, 100, 300, 65535, 1 << 39, 999999999999, impl.MaxValue - 1, impl.MaxValue}
	for bits := 7; bits < 40; bits += 7 {
		list = append(list, 1<<bits-1, 1<<bits, 1<<bits+1)
	}
	return list
}

// outOfRange are integers that have no encoding.
func outOfRange() []int {
	return []int{-1, -2, -128, -impl.MaxValue, math.MinInt, impl.MaxValue + 1, impl.MaxValue + 2, 1 << 40, 1 << 42, math.MaxInt}
}

func TestAppendUvarint(t *testing.T) {
	cases := []struct {
		n    int
		want []byte
	}{
		{0, []byte{0}}, {1, []byte{1}}, {127, []byte{127}}, {128, []byte{128, 1}}, {129, []byte{129, 1}}, {300, []byte{172, 2}},
		{16383, []byte{255, 127}}, {16384, []byte{128, 128, 1}}, {impl.MaxValue, []byte{128, 160, 148, 165, 141, 29}},
	}
	for _, c := range cases {
		if got := impl.AppendUvarint(nil, c.n); !bytes.Equal(got, c.want) {
			t.Errorf("AppendUvarint(nil, %d) = %v; want %v", c.n, got, c.want)
		}
		if got := impl.AppendUvarint([]byte{9, 8}, c.n); !bytes.Equal(got, append([]byte{9, 8}, c.want...)) {
			t.Errorf("AppendUvarint({9, 8}, %d) = %v; want 9, 8 and %v", c.n, got, c.want)
		}
	}
	for _, n := range values() {
		if got := impl.AppendUvarint([]byte{0x80}, n); !bytes.Equal(got, append([]byte{0x80}, leb128(n)...)) {
			t.Errorf("AppendUvarint({80}, %d) = % x", n, got)
		}
	}
}

func TestAppendUvarintOutOfRange(t *testing.T) {
	for _, n := range outOfRange() {
		for _, b := range [][]byte{nil, {}, {9}, {1, 2, 3}} {
			if got := impl.AppendUvarint(b, n); !bytes.Equal(got, b) {
				t.Errorf("AppendUvarint(%v, %d) = %v; want a copy", b, n, got)
			}
		}
	}
}

// Promise 2: an integer is decoded from its encoding, wherever it stands.
func TestReadUvarintInvertsAppendUvarint(t *testing.T) {
	for _, n := range values() {
		b := impl.AppendUvarint(nil, n)
		wantUvarint(t, b, 0, n, len(b), true)
		wantUvarint(t, append(bytes.Clone(b), 0xff, 0x80), 0, n, len(b), true)
		b = impl.AppendUvarint([]byte{0x80, 0xff, 0}, n)
		wantUvarint(t, b, 3, n, len(b), true)
	}
	for n := range 70000 {
		b := impl.AppendUvarint(nil, n)
		wantUvarint(t, b, 0, n, len(b), true)
	}
}

// Promise 2: an integer is decoded from no other encoding. All inputs of up to two bytes, at all offsets near them.
func TestReadUvarintOnAllShortInputs(t *testing.T) {
	inputs := [][]byte{nil, {}}
	for first := range 256 {
		inputs = append(inputs, []byte{byte(first)})
		for second := range 256 {
			inputs = append(inputs, []byte{byte(first), byte(second)})
		}
	}
	for _, b := range inputs {
		for offset := -2; offset <= 4; offset++ {
			n, next, ok := leb128At(b, offset)
			wantUvarint(t, b, offset, n, next, ok)
		}
	}
}

// Longer inputs, of the bytes at which decoding changes.
func TestReadUvarintOnLongInputs(t *testing.T) {
	alphabet := []byte{0, 1, 0x1d, 0x7f, 0x80, 0xff}
	b := make([]byte, 7)
	for code := range 279936 {
		for i := range b {
			b[i] = alphabet[code%len(alphabet)]
			code /= len(alphabet)
		}
		n, next, ok := leb128At(b, 0)
		wantUvarint(t, b, 0, n, next, ok)
	}
}

func TestReadUvarintRejects(t *testing.T) {
	cases := []struct {
		name   string
		b      []byte
		offset int
	}{
		{"no input", nil, 0},
		{"offset below the input", []byte{1}, -1},
		{"offset at the end", []byte{1}, 1},
		{"offset behind the end", []byte{1}, 2},
		{"least offset", []byte{1}, math.MinInt},
		{"greatest offset", []byte{1}, math.MaxInt},
		{"ends early after one byte", []byte{0x80}, 0},
		{"ends early after two bytes", []byte{0xac, 0x82}, 0},
		{"ends early after five bytes", []byte{0xff, 0xff, 0xff, 0xff, 0xff}, 0},
		{"ends early after six bytes", []byte{0x80, 0x80, 0x80, 0x80, 0x80, 0x80}, 0},
		{"ends early behind an offset", []byte{1, 1, 0xff}, 2},
		{"zero in two bytes", []byte{0x80, 0}, 0},
		{"300 in three bytes", []byte{0xac, 0x82, 0}, 0},
		{"127 in two bytes", []byte{0xff, 0}, 0},
		{"zero in six bytes", []byte{0x80, 0x80, 0x80, 0x80, 0x80, 0}, 0},
		{"one in six bytes", []byte{0x81, 0x80, 0x80, 0x80, 0x80, 0}, 0},
		{"zero in seven bytes", []byte{0x80, 0x80, 0x80, 0x80, 0x80, 0x80, 0}, 0},
		{"seven bytes", []byte{0x80, 0x80, 0x80, 0x80, 0x80, 0x80, 1}, 0},
		{"seven bytes of a small integer", []byte{0x81, 0x80, 0x80, 0x80, 0x80, 0x80, 0}, 0},
		{"ten bytes", leb128(math.MaxInt), 0},
		{"eleven bytes", []byte{0x81, 0x80, 0x80, 0x80, 0x80, 0x80, 0x80, 0x80, 0x80, 0x80, 0x01}, 0},
		{"beyond the largest by one", leb128(impl.MaxValue + 1), 0},
		{"beyond the largest in the last group", []byte{128, 160, 148, 165, 141, 30}, 0},
		{"the greatest of six bytes", []byte{0xff, 0xff, 0xff, 0xff, 0xff, 0x7f}, 0},
		{"beyond the largest behind an offset", append([]byte{0}, leb128(impl.MaxValue+1)...), 1},
	}
	for _, c := range cases {
		if n, next, ok := impl.ReadUvarint(c.b, c.offset); n != 0 || next != 0 || ok {
			t.Errorf("%s: ReadUvarint(% x, %d) = %d, %d, %v; want 0, 0, false", c.name, c.b, c.offset, n, next, ok)
		}
	}
	wantUvarint(t, []byte{172, 2}, 1, 2, 2, true)
	wantUvarint(t, []byte{128, 160, 148, 165, 141, 29}, 0, impl.MaxValue, 6, true)
}

func wantBytes(t *testing.T, b []byte, offset int, maxLen int, want []byte, wantNext int) {
	t.Helper()
	if data, next, ok := impl.ReadBytes(b, offset, maxLen); !bytes.Equal(data, want) || next != wantNext || !ok {
		t.Errorf("ReadBytes(% x, %d, %d) = % x, %d, %v; want % x, %d, true", b, offset, maxLen, data, next, ok, want, wantNext)
	}
}

func wantNoBytes(t *testing.T, name string, b []byte, offset int, maxLen int) {
	t.Helper()
	if data, next, ok := impl.ReadBytes(b, offset, maxLen); len(data) != 0 || next != 0 || ok {
		t.Errorf("%s: ReadBytes(% x, %d, %d) = % x, %d, %v; want empty, 0, false", name, b, offset, maxLen, data, next, ok)
	}
}

func TestAppendBytes(t *testing.T) {
	long := bytes.Repeat([]byte{7}, 300)
	cases := []struct{ b, data, want []byte }{
		{nil, nil, []byte{0}}, {nil, []byte{}, []byte{0}}, {[]byte{1}, nil, []byte{1, 0}},
		{[]byte{1}, []byte{7, 8}, []byte{1, 2, 7, 8}}, {nil, []byte{0}, []byte{1, 0}}, {nil, []byte{0x80}, []byte{1, 0x80}},
		{nil, long[:127], append([]byte{127}, long[:127]...)}, {nil, long[:128], append([]byte{128, 1}, long[:128]...)},
		{[]byte{5, 6}, long, append([]byte{5, 6, 172, 2}, long...)},
	}
	for _, c := range cases {
		if got := impl.AppendBytes(c.b, c.data); !bytes.Equal(got, c.want) {
			t.Errorf("AppendBytes(% x, % x) = % x; want % x", c.b, c.data, got, c.want)
		}
	}
}

// Promise 2: a byte string is decoded from its encoding, wherever it stands.
func TestReadBytesInvertsAppendBytes(t *testing.T) {
	for _, size := range []int{0, 1, 2, 127, 128, 129, 300, 20000} {
		data := make([]byte, size)
		for i := range data {
			data[i] = byte(255 - i)
		}
		b := impl.AppendBytes(nil, data)
		wantBytes(t, b, 0, size, data, len(b))
		wantBytes(t, b, 0, size+1, data, len(b))
		wantBytes(t, b, 0, math.MaxInt, data, len(b))
		wantBytes(t, append(bytes.Clone(b), 1, 2), 0, size, data, len(b))
		b = impl.AppendBytes([]byte{0xff, 0x80}, data)
		wantBytes(t, b, 2, size, data, len(b))
	}
	b := impl.AppendBytes(impl.AppendBytes(nil, []byte("one")), []byte("three"))
	wantBytes(t, b, 0, 5, []byte("one"), 4)
	wantBytes(t, b, 4, 5, []byte("three"), 10)
}

// Promise 2: a byte string is decoded from nothing else.
func TestReadBytesRejects(t *testing.T) {
	wantNoBytes(t, "no input", nil, 0, 5)
	wantNoBytes(t, "offset below the input", []byte{1, 7}, -1, 5)
	wantNoBytes(t, "offset at the end", []byte{1, 7}, 2, 5)
	wantNoBytes(t, "offset behind the end", []byte{1, 7}, 3, 5)
	wantNoBytes(t, "least offset", []byte{1, 7}, math.MinInt, 5)
	wantNoBytes(t, "greatest offset", []byte{1, 7}, math.MaxInt, 5)
	wantNoBytes(t, "length ends early", []byte{0x80}, 0, 500)
	wantNoBytes(t, "length not minimal", []byte{0x81, 0, 7}, 0, 5)
	wantNoBytes(t, "empty, length not minimal", []byte{0x80, 0}, 0, 5)
	wantNoBytes(t, "length of seven bytes", []byte{0x81, 0x80, 0x80, 0x80, 0x80, 0x80, 0, 7}, 0, 5)
	wantNoBytes(t, "length beyond the largest", append(leb128(impl.MaxValue+1), 7), 0, math.MaxInt)
	wantNoBytes(t, "longer than maxLen by one", []byte{2, 7, 8}, 0, 1)
	wantNoBytes(t, "longer than maxLen and the input", []byte{9, 7, 8}, 0, 5)
	wantNoBytes(t, "one byte, none allowed", []byte{1, 7}, 0, 0)
	wantNoBytes(t, "empty, less than none allowed", []byte{0}, 0, -1)
	wantNoBytes(t, "less than none allowed", []byte{1, 7}, 0, math.MinInt)
	wantNoBytes(t, "too short by one", []byte{3, 7, 8}, 0, 5)
	wantNoBytes(t, "nothing behind the length", []byte{1}, 0, 5)
	wantNoBytes(t, "too short behind an offset", []byte{9, 9, 3, 7, 8}, 2, 5)
	wantNoBytes(t, "the largest length", append(leb128(impl.MaxValue), 7), 0, math.MaxInt)
	wantBytes(t, []byte{2, 7, 8}, 0, 2, []byte{7, 8}, 3)
	wantBytes(t, []byte{0}, 0, 0, nil, 1)
	wantBytes(t, []byte{9, 0}, 1, 3, nil, 2)
}

// Random inputs against an oracle that reads the length by encoding/binary.
func TestReadBytesOnRandomInputs(t *testing.T) {
	source := rand.New(rand.NewSource(2))
	for range 20000 {
		b := make([]byte, source.Intn(8))
		for i := range b {
			b[i] = []byte{0, 1, 2, 3, 5, 0x80, 0x81, 0xff}[source.Intn(8)]
		}
		offset, maxLen := source.Intn(10)-1, source.Intn(7)-1
		n, next, ok := leb128At(b, offset)
		if ok && n <= maxLen && n <= len(b)-next {
			wantBytes(t, b, offset, maxLen, b[next:next+n], next+n)
		} else {
			wantNoBytes(t, "random", b, offset, maxLen)
		}
	}
}

func wantInts(t *testing.T, b []byte, offset int, count int, want []int, wantNext int) {
	t.Helper()
	if list, next, ok := impl.DecodeInts(b, offset, count); !slices.Equal(list, want) || next != wantNext || !ok {
		t.Errorf("DecodeInts(% x, %d, %d) = %v, %d, %v; want %v, %d, true", b, offset, count, list, next, ok, want, wantNext)
	}
}

func wantNoInts(t *testing.T, name string, b []byte, offset int, count int) {
	t.Helper()
	if list, next, ok := impl.DecodeInts(b, offset, count); len(list) != 0 || next != 0 || ok {
		t.Errorf("%s: DecodeInts(% x, %d, %d) = %v, %d, %v; want empty, 0, false", name, b, offset, count, list, next, ok)
	}
}

func TestEncodeInts(t *testing.T) {
	cases := []struct {
		values []int
		want   []byte
	}{
		{nil, nil}, {[]int{}, nil}, {[]int{0}, []byte{0}}, {[]int{5, 300}, []byte{5, 172, 2}}, {[]int{300, 5}, []byte{172, 2, 5}},
		{[]int{1, 1, 0, 1}, []byte{1, 1, 0, 1}}, {[]int{-1}, nil}, {[]int{impl.MaxValue + 1}, nil},
		{[]int{-1, 5, impl.MaxValue + 1, 300, math.MinInt}, []byte{5, 172, 2}}, {[]int{7, math.MaxInt, 8}, []byte{7, 8}},
		{[]int{impl.MaxValue, 0}, []byte{128, 160, 148, 165, 141, 29, 0}},
	}
	for _, c := range cases {
		if got := impl.EncodeInts(c.values); !bytes.Equal(got, c.want) {
			t.Errorf("EncodeInts(%v) = % x; want % x", c.values, got, c.want)
		}
	}
	if got := impl.EncodeInts(outOfRange()); len(got) != 0 {
		t.Errorf("EncodeInts of values out of range = % x", got)
	}
	// DecodeInts has a limit of 100 integers; EncodeInts has none.
	if got := impl.EncodeInts(make([]int, 1000)); !bytes.Equal(got, make([]byte, 1000)) {
		t.Errorf("EncodeInts of 1000 zeros has %d bytes", len(got))
	}
}

// Promise 2: integers are decoded from their encoding, all of them or the first few.
func TestDecodeIntsInvertsEncodeInts(t *testing.T) {
	list := values()
	b := impl.EncodeInts(list)
	for count := range len(list) + 1 {
		end := len(impl.EncodeInts(list[:count]))
		wantInts(t, b, 0, count, list[:count], end)
		wantInts(t, b, end, len(list)-count, list[count:], len(b))
		wantInts(t, append([]byte{0x80}, b...), 1, count, list[:count], end+1)
	}
	wantInts(t, impl.EncodeInts([]int{5, -1, 300}), 0, 2, []int{5, 300}, 3)
	wantInts(t, make([]byte, 101), 0, 100, make([]int, 100), 100)
	wantInts(t, make([]byte, 101), 1, 100, make([]int, 100), 101)
	wantInts(t, nil, 0, 0, nil, 0)
	wantInts(t, []byte{0x80, 0}, 0, 0, nil, 0)
	wantInts(t, []byte{0x80, 0}, 2, 0, nil, 2)
}

// Promise 2: integers are decoded from nothing else.
func TestDecodeIntsRejects(t *testing.T) {
	b := make([]byte, 200)
	wantNoInts(t, "a count of one less than none", b, 0, -1)
	wantNoInts(t, "the least count", b, 0, math.MinInt)
	wantNoInts(t, "a count of 101", b, 0, 101)
	wantNoInts(t, "the greatest count", b, 0, math.MaxInt)
	wantNoInts(t, "offset below the input", b, -1, 1)
	wantNoInts(t, "offset behind the end", b, 201, 1)
	wantNoInts(t, "no integers below the input", b, -1, 0)
	wantNoInts(t, "no integers behind the end", b, 201, 0)
	wantNoInts(t, "no integers behind an empty input", nil, 1, 0)
	wantNoInts(t, "least offset", b, math.MinInt, 0)
	wantNoInts(t, "greatest offset", b, math.MaxInt, 0)
	wantNoInts(t, "offset at the end", b, 200, 1)
	wantNoInts(t, "too few", []byte{5, 172, 2}, 0, 3)
	wantNoInts(t, "the last ends early", []byte{5, 172}, 0, 2)
	wantNoInts(t, "the first is not minimal", []byte{0x80, 0, 5}, 0, 2)
	wantNoInts(t, "the second is not minimal", []byte{5, 0x85, 0, 5}, 0, 3)
	wantNoInts(t, "the second is beyond the largest", append([]byte{5}, leb128(impl.MaxValue+1)...), 0, 2)
	wantNoInts(t, "the second has seven bytes", []byte{5, 0x80, 0x80, 0x80, 0x80, 0x80, 0x80, 1}, 0, 2)
}

func TestEqualBytes(t *testing.T) {
	cases := []struct {
		a, b []byte
		want bool
	}{
		{nil, nil, true}, {nil, []byte{}, true}, {[]byte{}, nil, true}, {[]byte{1, 2}, []byte{1, 2}, true}, {[]byte{0}, []byte{0}, true},
		{nil, []byte{0}, false}, {[]byte{0}, nil, false}, {[]byte{1}, []byte{1, 0}, false}, {[]byte{1, 0}, []byte{1}, false},
		{[]byte{1, 2}, []byte{2, 1}, false}, {[]byte{1, 2, 3}, []byte{9, 2, 3}, false}, {[]byte{1, 2, 3}, []byte{1, 2, 9}, false},
		{[]byte{0x80}, []byte{0}, false},
	}
	for _, c := range cases {
		if got := impl.EqualBytes(c.a, c.b); got != c.want {
			t.Errorf("EqualBytes(%v, %v) = %v; want %v", c.a, c.b, got, c.want)
		}
	}
}

// The functions that append leave their arguments alone and answer with memory of their own.
func TestAppendingIsOnCopies(t *testing.T) {
	for _, start := range [][]byte{{}, {9}, {1, 2, 3}} {
		for _, n := range []int{-1, 0, 300, impl.MaxValue, impl.MaxValue + 1} {
			b := withSpare(start)
			got := impl.AppendUvarint(b, n)
			wantUntouched(t, "AppendUvarint", b, start)
			scribble(got)
			wantUntouched(t, "a write to the result of AppendUvarint", b, start)
		}
		for _, text := range [][]byte{{}, {7}, {7, 8, 0x80}} {
			b, data := withSpare(start), withSpare(text)
			got := impl.AppendBytes(b, data)
			want := bytes.Clone(got)
			wantUntouched(t, "AppendBytes", b, start)
			wantUntouched(t, "AppendBytes", data, text)
			scribble(b)
			scribble(data)
			if !bytes.Equal(got, want) {
				t.Errorf("a write to an argument of AppendBytes changes its result % x to % x", want, got)
			}
			scribble(got)
			scribble(b)
			scribble(data)
			wantUntouched(t, "a write to the result of AppendBytes", b, start)
			wantUntouched(t, "a write to the result of AppendBytes", data, text)
		}
	}
}

// The functions that decode leave their input alone and answer with memory of their own.
func TestDecodingIsOnCopies(t *testing.T) {
	input := []byte{2, 7, 8, 5, 172, 2, 128, 0}
	b := withSpare(input)
	data, _, _ := impl.ReadBytes(b, 0, 2)
	again, _, _ := impl.ReadBytes(b, 0, 2)
	impl.ReadBytes(b, 6, 2)
	impl.ReadUvarint(b, 4)
	impl.ReadUvarint(b, 6)
	list, _, _ := impl.DecodeInts(b, 3, 2)
	impl.DecodeInts(b, 3, 3)
	wantUntouched(t, "decoding", b, input)
	scribble(data)
	wantUntouched(t, "a write to the result of ReadBytes", b, input)
	scribble(b)
	if !bytes.Equal(again, []byte{7, 8}) || !slices.Equal(list, []int{5, 300}) {
		t.Errorf("a write to the input changes results to % x and %v", again, list)
	}
}

func TestEncodeIntsLeavesValues(t *testing.T) {
	whole := []int{5, -1, 300, 11, 12}
	got := impl.EncodeInts(whole[:3])
	if !slices.Equal(whole, []int{5, -1, 300, 11, 12}) {
		t.Error(whole)
	}
	whole[0] = 6
	if !bytes.Equal(got, []byte{5, 172, 2}) {
		t.Error(got)
	}
}
