package tests

import (
	"bytes"
	"math"
	"math/big"
	"math/rand"
	"slices"
	"testing"

	"loop.example/g03006/impl"
)

// hashInts are the values around which a hash changes how it takes them.
func hashInts() []int {
	const p = impl.Modulus
	return []int{
		0, 1, 2, 5, 255, 256, 300, p - 2, p - 1, p, p + 1, p + 5, 2*p - 1, 2 * p, p * p, impl.MaxValue, impl.MaxValue + 1, math.MaxInt - 1, math.MaxInt,
		-1, -2, -5, -255, 1 - p, -p, -p - 1, -2 * p, -impl.MaxValue, math.MinInt, math.MinInt + 1,
	}
}

// hashKeys are keys at both ends of their range, within it, and out of it.
func hashKeys() []int {
	const p = impl.Modulus
	return []int{1, 2, 3, 77, 1000003, p - 2, p - 1, 0, -1, -77, p, p + 1, 1 - p, impl.MaxValue, math.MinInt, math.MaxInt}
}

// polynomial is the oracle for Hash: the sum of all that is folded in, each times its power of the factor.
func polynomial(values []int) int {
	modulus, factor := big.NewInt(impl.Modulus), big.NewInt(1000003)
	power := func(n int) *big.Int { return new(big.Int).Exp(factor, big.NewInt(int64(n)), modulus) }
	sum := new(big.Int).Mul(big.NewInt(11), power(len(values)))
	for i, v := range values {
		term := new(big.Int).Add(big.NewInt(int64(v)), big.NewInt(13))
		sum.Add(sum, term.Mul(term, power(len(values)-1-i)))
	}
	return int(sum.Mod(sum, modulus).Int64())
}

// keyedPolynomial is the oracle for KeyedHash.
func keyedPolynomial(key int, values []int) int {
	return polynomial(slices.Concat([]int{key}, values, []int{key}))
}

// wantSameInts checks that a list made as whole[:n] is unchanged, with all that stands behind it.
func wantSameInts(t *testing.T, name string, list []int, whole []int) {
	t.Helper()
	if !slices.Equal(list[:cap(list)], whole) {
		t.Errorf("%s changed its argument: %v; was %v", name, list[:cap(list)], whole)
	}
}

func TestModulus(t *testing.T) {
	if impl.Modulus != 2147483647 {
		t.Error(impl.Modulus)
	}
}

func TestHash(t *testing.T) {
	const p = impl.Modulus
	cases := []struct {
		values []int
		want   int
	}{
		{nil, 11}, {[]int{}, 11}, {[]int{0}, 11000046}, {[]int{0, 0}, 667760217}, {[]int{0, 0, 0}, 32762367},
		{[]int{1}, 11000047}, {[]int{5}, 11000051}, {[]int{5, 300}, 672760532}, {[]int{300, 5}, 967761122},
		{[]int{p - 1}, 11000045}, {[]int{p}, 11000046}, {[]int{p + 5}, 11000051}, {[]int{math.MaxInt}, 11000047},
		{[]int{-1}, 11000045}, {[]int{-5}, 11000041}, {[]int{-p}, 11000046}, {[]int{-p - 1}, 11000045}, {[]int{math.MinInt}, 11000044},
		{[]int{-1, -2, -3}, 752141851}, {[]int{impl.MaxValue, -impl.MaxValue}, 339527524},
	}
	for _, c := range cases {
		if got := impl.Hash(c.values); got != c.want {
			t.Errorf("Hash(%v) = %d; want %d", c.values, got, c.want)
		}
	}
}

// A hash takes a value modulo Modulus, also a negative one, in every place; it is never out of its range.
func TestHashIsThePolynomial(t *testing.T) {
	wantHash := func(values ...int) {
		t.Helper()
		got := impl.Hash(values)
		if got != polynomial(values) || got < 0 || got >= impl.Modulus {
			t.Errorf("Hash(%v) = %d; want %d", values, got, polynomial(values))
		}
	}
	for _, a := range hashInts() {
		wantHash(a)
		for _, b := range hashInts() {
			wantHash(a, b)
			wantHash(b, 7, a, -7)
		}
	}
	source := rand.New(rand.NewSource(3))
	for size := range 300 {
		values := make([]int, size)
		for i := range values {
			values[i] = int(source.Uint64())
		}
		wantHash(values...)
	}
}

func TestKeyedHash(t *testing.T) {
	cases := []struct {
		key    int
		values []int
		want   int
	}{
		{0, nil, 667760217}, {1, nil, 668760221}, {1, []int{}, 668760221}, {3, []int{4}, 20107550}, {77, []int{1}, 322116308},
		{impl.Modulus - 1, []int{0}, 754141859}, {-1, []int{0}, 754141859}, {impl.Modulus, []int{5}, 37762382}, {0, []int{5}, 37762382},
		{math.MinInt, []int{-7, 8}, 1265817786}, {math.MaxInt, nil, 668760221},
	}
	for _, c := range cases {
		if got := impl.KeyedHash(c.key, c.values); got != c.want {
			t.Errorf("KeyedHash(%d, %v) = %d; want %d", c.key, c.values, got, c.want)
		}
	}
	for _, key := range hashKeys() {
		for _, values := range [][]int{nil, {}, {0}, {-1}, {4, 5}, hashInts(), make([]int, 1000)} {
			whole := slices.Concat([]int{key}, values, []int{key})
			if got := impl.KeyedHash(key, values); got != impl.Hash(whole) || got != keyedPolynomial(key, values) {
				t.Errorf("KeyedHash(%d, %v) = %d; want Hash(%v) = %d", key, values, got, whole, impl.Hash(whole))
			}
		}
	}
}

// Promise 3: a keyed hash is another one when one of its values, the key among them, is another one modulo Modulus.
func TestKeyedHashDependsOnEachValue(t *testing.T) {
	deltas := []int{1, -1, 2, 7, -255, 1000003, impl.Modulus - 1, impl.Modulus + 1, -impl.Modulus + 1}
	for _, key := range hashKeys() {
		for _, values := range [][]int{{0}, {5, 300}, {-1, 0, 1, 2}, {9, 9, 9, 9, 9, 9, 9}, make([]int, 40)} {
			plain := impl.KeyedHash(key, values)
			for _, delta := range deltas {
				for i := range values {
					other := slices.Clone(values)
					other[i] += delta
					if impl.KeyedHash(key, other) == plain {
						t.Errorf("KeyedHash(%d, %v) is KeyedHash of %v too", key, values, other)
					}
				}
				if impl.KeyedHash(key+delta, values) == plain {
					t.Errorf("KeyedHash(%d, %v) is that of key %d too", key, values, key+delta)
				}
			}
		}
	}
}

// Promise 3: nor can values be put into another order, added or left out unnoticed.
func TestKeyedHashDependsOnOrderAndLength(t *testing.T) {
	seen := map[int][]int{}
	lists := [][]int{{}}
	for from := 0; len(lists[from]) < 4; from++ {
		for v := -2; v <= 4; v++ {
			lists = append(lists, append(slices.Clone(lists[from]), v))
		}
	}
	for _, list := range lists {
		hash := impl.KeyedHash(77, list)
		if other, met := seen[hash]; met {
			t.Errorf("KeyedHash(77, %v) is that of %v too", list, other)
		}
		seen[hash] = list
	}
}

func TestIsValidKey(t *testing.T) {
	for _, key := range []int{1, 2, 77, impl.Modulus / 2, impl.Modulus - 2, impl.Modulus - 1} {
		if !impl.IsValidKey(key) {
			t.Errorf("IsValidKey(%d) is false", key)
		}
	}
	for _, key := range []int{0, -1, -77, -impl.Modulus, math.MinInt, impl.Modulus, impl.Modulus + 1, 2 * impl.Modulus, impl.MaxValue, math.MaxInt} {
		if impl.IsValidKey(key) {
			t.Errorf("IsValidKey(%d) is true", key)
		}
	}
}

func TestBytesToInts(t *testing.T) {
	cases := []struct {
		b    []byte
		want []int
	}{
		{nil, []int{0}}, {[]byte{}, []int{0}}, {[]byte{9, 8}, []int{2, 9, 8}}, {[]byte{8, 9}, []int{2, 8, 9}}, {[]byte{0}, []int{1, 0}},
		{[]byte{0, 0}, []int{2, 0, 0}}, {[]byte{255}, []int{1, 255}}, {[]byte{127, 128, 0, 255}, []int{4, 127, 128, 0, 255}},
	}
	for _, c := range cases {
		if got := impl.BytesToInts(c.b); !slices.Equal(got, c.want) {
			t.Errorf("BytesToInts(%v) = %v; want %v", c.b, got, c.want)
		}
	}
	long := everyByte(300)
	got := impl.BytesToInts(long)
	if len(got) != 301 || got[0] != 300 {
		t.Fatalf("BytesToInts of 300 bytes begins with %v, and has %d integers", got[:1], len(got))
	}
	for i, c := range long {
		if got[i+1] != int(c) {
			t.Errorf("BytesToInts of 300 bytes has %d for byte %d at index %d", got[i+1], c, i)
		}
	}
}

// everyByte returns size bytes, all different as far as bytes can be, from 0 and 255 on.
func everyByte(size int) []byte {
	b := make([]byte, size)
	for i := range b {
		b[i] = byte(i / 2)
		if i%2 == 1 {
			b[i] = ^b[i]
		}
	}
	return b
}

func TestEncryptAndDecrypt(t *testing.T) {
	cases := []struct {
		key                        int
		text, encrypted, decrypted []byte
	}{
		{77, []byte("hello"), []byte{249, 57, 131, 198, 12}, []byte{215, 145, 85, 18, 210}},
		{1, []byte{0, 255, 0, 255}, []byte{90, 156, 224, 34}, []byte{166, 98, 32, 220}},
		{impl.Modulus - 1, []byte{0, 255, 128}, []byte{163, 229, 169}, []byte{93, 25, 87}},
		{0, []byte("abc"), []byte{96, 164, 232}, []byte{98, 32, 222}},
		{impl.Modulus, []byte("abc"), []byte{96, 164, 232}, []byte{98, 32, 222}},
		{-1, []byte("abc"), []byte{4, 72, 140}, []byte{190, 124, 58}},
		{77, nil, nil, nil}, {77, []byte{}, nil, nil}, {0, nil, nil, nil}, {-1, []byte{}, nil, nil},
	}
	for _, c := range cases {
		if got := impl.Encrypt(c.key, c.text); !bytes.Equal(got, c.encrypted) {
			t.Errorf("Encrypt(%d, %v) = %v; want %v", c.key, c.text, got, c.encrypted)
		}
		if got := impl.Decrypt(c.key, c.text); !bytes.Equal(got, c.decrypted) {
			t.Errorf("Decrypt(%d, %v) = %v; want %v", c.key, c.text, got, c.decrypted)
		}
	}
}

// Every byte at every index, in both directions, against the keyed hash of the index.
func TestCipherTakesTheKeyStream(t *testing.T) {
	for _, key := range hashKeys() {
		for first := range 256 {
			text := bytes.Repeat([]byte{byte(first)}, 4)
			encrypted, decrypted := impl.Encrypt(key, text), impl.Decrypt(key, text)
			for i := range text {
				step := keyedPolynomial(key, []int{i})
				up, down := (first+step)%256, ((first-step)%256+256)%256
				if int(encrypted[i]) != up || int(decrypted[i]) != down {
					t.Fatalf("key %d: byte %d at index %d goes to %d and %d; want %d and %d", key, first, i, encrypted[i], decrypted[i], up, down)
				}
			}
		}
		long := everyByte(1000)
		encrypted := impl.Encrypt(key, long)
		for i, c := range long {
			if want := byte(int(c) + keyedPolynomial(key, []int{i})); encrypted[i] != want {
				t.Fatalf("key %d: byte %d at index %d goes to %d; want %d", key, c, i, encrypted[i], want)
			}
		}
	}
}

// Promise 3: decryption inverts encryption, and the other way round.
func TestDecryptInvertsEncrypt(t *testing.T) {
	texts := [][]byte{nil, {}, {0}, {255}, {0, 255}, {255, 0}, []byte("hello"), bytes.Repeat([]byte{255}, 70), make([]byte, 70), everyByte(1000)}
	for _, key := range hashKeys() {
		for _, text := range texts {
			if got := impl.Decrypt(key, impl.Encrypt(key, text)); !bytes.Equal(got, text) {
				t.Errorf("key %d: %v is encrypted and decrypted to %v", key, text, got)
			}
			if got := impl.Encrypt(key, impl.Decrypt(key, text)); !bytes.Equal(got, text) {
				t.Errorf("key %d: %v is decrypted and encrypted to %v", key, text, got)
			}
		}
	}
}

// A ciphertext is of no use with another key, and no call depends on an earlier one.
func TestCipherDependsOnTheKeyAlone(t *testing.T) {
	text := []byte("hello, streets")
	for _, key := range []int{1, 77, impl.Modulus - 1} {
		encrypted := impl.Encrypt(key, text)
		if bytes.Equal(encrypted, text) || bytes.Equal(impl.Decrypt(key%(impl.Modulus-1)+1, encrypted), text) {
			t.Errorf("key %d: % x", key, encrypted)
		}
		if again := impl.Encrypt(key, text); !bytes.Equal(again, encrypted) {
			t.Errorf("key %d: % x, and then % x", key, encrypted, again)
		}
		if part := impl.Encrypt(key, text[:5]); !bytes.Equal(part, encrypted[:5]) {
			t.Errorf("key %d: the beginning alone is % x; want % x", key, part, encrypted[:5])
		}
	}
}

func TestDeriveFromString(t *testing.T) {
	cases := []struct {
		key   int
		label string
		want  int
	}{
		{5, "", 720832201}, {5, "ab", 1905036959}, {1, "a", 879951042}, {impl.Modulus - 1, "a", 928311165}, {-1, "a", 928311165},
		{0, "", 32762367}, {impl.Modulus, "", 32762367}, {7, "\xc3\xa9", 1061973629}, {7, "\xff\x00", 559876482},
		// The hash of each of these is 0, 1 or Modulus-1.
		{1310415589, "", 1}, {916074962, "ab", 1}, {1668207898, "north", 1}, {293453469, "\xff\x00", 1}, {916074962 - impl.Modulus, "ab", 1},
		{185075670, "", 1}, {1778320862, "ab", 1}, {977870528, "north", 1},
		{288271861, "", impl.Modulus - 1}, {53829062, "ab", impl.Modulus - 1}, {211061621, "north", impl.Modulus - 1},
	}
	for _, c := range cases {
		if got := impl.DeriveFromString(c.key, c.label); got != c.want {
			t.Errorf("DeriveFromString(%d, %q) = %d; want %d", c.key, c.label, got, c.want)
		}
	}
	if hash := impl.KeyedHash(1310415589, []int{0}); hash != 0 {
		t.Errorf("the hash that is to be 0 is %d", hash)
	}
}

// The bytes of the label count, not its runes, and what is derived is always a valid key.
func TestDeriveFromStringIsTheKeyedHash(t *testing.T) {
	labels := []string{"", "a", "b", "ab", "ba", "a\x00", "\x00", "\xff", "\x80\x81", "\u00e9", "\u8857", "\ufffd", string(everyByte(600))}
	for _, key := range hashKeys() {
		derived := map[int]string{}
		for _, label := range labels {
			values := []int{len(label)}
			for i := range len(label) {
				values = append(values, int(label[i]))
			}
			got, want := impl.DeriveFromString(key, label), keyedPolynomial(key, values)
			if want == 0 {
				want = 1
			}
			if got != want || !impl.IsValidKey(got) {
				t.Errorf("DeriveFromString(%d, %q) = %d; want %d", key, label, got, want)
			}
			if other, met := derived[got]; met {
				t.Errorf("DeriveFromString(%d, %q) is that of %q too", key, label, other)
			}
			derived[got] = label
		}
	}
}

// The functions on bytes leave their arguments alone and answer with memory of their own.
func TestCipherIsOnCopies(t *testing.T) {
	calls := map[string]func(b []byte) []byte{
		"Encrypt": func(b []byte) []byte { return impl.Encrypt(77, b) },
		"Decrypt": func(b []byte) []byte { return impl.Decrypt(77, b) },
	}
	for name, call := range calls {
		for _, text := range [][]byte{{}, {0}, {7}, {0, 255, 7}} {
			b := withSpare(text)
			first, second := call(b), call(b)
			want := bytes.Clone(first)
			wantUntouched(t, name, b, text)
			scribble(first)
			wantUntouched(t, "a write to the result of "+name, b, text)
			scribble(b)
			if !bytes.Equal(second, want) {
				t.Errorf("%s(%v): a write to its argument or to another result changes % x to % x", name, text, want, second)
			}
		}
	}
}

func TestHashesLeaveTheirArguments(t *testing.T) {
	whole := []int{5, -1, impl.Modulus + 2, 11, 12, 13}
	for size := range len(whole) {
		list := slices.Clone(whole)[:size]
		impl.Hash(list)
		wantSameInts(t, "Hash", list, whole)
		impl.KeyedHash(77, list)
		wantSameInts(t, "KeyedHash", list, whole)
		impl.EqualInts(list, list)
		wantSameInts(t, "EqualInts", list, whole)
	}
	b := withSpare([]byte{9, 8})
	first, second := impl.BytesToInts(b), impl.BytesToInts(b)
	wantUntouched(t, "BytesToInts", b, []byte{9, 8})
	scribble(b)
	first = first[:cap(first)]
	for i := range first {
		first[i] = -1
	}
	if !slices.Equal(second, []int{2, 9, 8}) {
		t.Errorf("a write to the argument of BytesToInts or to another result changes the result to %v", second)
	}
}

func TestEqualInts(t *testing.T) {
	cases := []struct {
		a, b []int
		want bool
	}{
		{nil, nil, true}, {nil, []int{}, true}, {[]int{}, nil, true}, {[]int{5, 300}, []int{5, 300}, true}, {[]int{0}, []int{0}, true},
		{[]int{math.MinInt, math.MaxInt}, []int{math.MinInt, math.MaxInt}, true},
		{nil, []int{0}, false}, {[]int{0}, nil, false}, {[]int{5}, []int{5, 0}, false}, {[]int{5, 0}, []int{5}, false},
		{[]int{5, 300}, []int{300, 5}, false}, {[]int{1, 2, 3}, []int{9, 2, 3}, false}, {[]int{1, 2, 3}, []int{1, 2, 9}, false},
		{[]int{1}, []int{-1}, false}, {[]int{0}, []int{256}, false}, {[]int{0}, []int{1 << 32}, false},
	}
	for _, c := range cases {
		if got := impl.EqualInts(c.a, c.b); got != c.want {
			t.Errorf("EqualInts(%v, %v) = %v; want %v", c.a, c.b, got, c.want)
		}
	}
}
