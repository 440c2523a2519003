package arith_test

import (
	"math"
	"math/big"
	"sync"
	"testing"

	"gneiss/api"
	"gneiss/arith"
)

const (
	least = -1 << 31
	most  = 1<<31 - 1
)

// edges are the numbers at which signs, widths and the shifts' places turn.
var edges = []int{
	least, least + 1, -65537, -65536, -65, -64, -63, -33, -32, -31, -7, -2, -1,
	0, 1, 2, 7, 31, 32, 33, 63, 64, 65, 65535, 65536, 46341, most - 1, most,
}

// outside are ints that are no numbers of the machine.
var outside = []int{least - 1, most + 1, 1 << 32, -1 << 32, 1<<32 + 5, 1 << 40, math.MinInt64, math.MaxInt64}

// pairs calls with every two edges and with a fixed row of other numbers.
func pairs(with func(a, b int)) {
	for _, a := range edges {
		for _, b := range edges {
			with(a, b)
		}
	}
	state := uint64(7)
	next := func() int {
		state = state*6364136223846793005 + 1442695040888963407
		return int(int32(state >> 32))
	}
	for range 5000 {
		a, b := next(), next()
		with(a, b)
		with(a, b>>20)
		with(a>>16, b>>28)
	}
}

// wrapped takes x modulo 2^32 into the machine's range.
func wrapped(x *big.Int) int {
	modulus := big.NewInt(1 << 32)
	rest := new(big.Int).Mod(x, modulus).Int64()
	if rest > most {
		rest -= 1 << 32
	}
	return int(rest)
}

// want works op out over whole numbers without bound, apart from the package's own way.
func want(op, a, b int) (int, bool) {
	x, y, z := big.NewInt(int64(a)), big.NewInt(int64(b)), new(big.Int)
	places := uint(((b % 32) + 32) % 32)
	switch op {
	case api.ArithAdd:
		z.Add(x, y)
	case api.ArithSub:
		z.Sub(x, y)
	case api.ArithMul:
		z.Mul(x, y)
	case api.ArithDiv, api.ArithRem:
		if b == 0 {
			return 0, false
		}
		quotient, rest := z.QuoRem(x, y, new(big.Int))
		if op == api.ArithRem {
			return wrapped(rest), true
		}
		return wrapped(quotient), true
	case api.ArithNeg:
		z.Neg(x)
	case api.ArithAnd:
		z.And(x, y)
	case api.ArithOr:
		z.Or(x, y)
	case api.ArithXor:
		z.Xor(x, y)
	case api.ArithShl:
		z.Lsh(x, places)
	case api.ArithShr:
		z.Rsh(x, places)
	case api.ArithUshr:
		z.Mod(x, big.NewInt(1<<32))
		z.Rsh(z, places)
	}
	return wrapped(z), true
}

// must is Do's value where there has to be one.
func must(t *testing.T, op, a, b int) int {
	t.Helper()
	value, has := arith.Do(op, a, b)
	if !has {
		t.Fatalf("Do(%d, %d, %d) has no value", op, a, b)
	}
	return value
}

func TestP1_1Examples(t *testing.T) {
	for _, row := range []struct {
		name           string
		op, a, b, want int
	}{
		{"Add", api.ArithAdd, 2, 3, 5},
		{"Add wraps above", api.ArithAdd, most, 1, least},
		{"Add wraps below", api.ArithAdd, least, -1, most},
		{"Sub", api.ArithSub, 2, 3, -1},
		{"Sub wraps", api.ArithSub, least, 1, most},
		{"Mul", api.ArithMul, -6, 7, -42},
		{"Mul wraps to 0", api.ArithMul, 65536, 65536, 0},
		{"Mul wraps to a number below 0", api.ArithMul, 46341, 46341, -2147479015},
		{"Div goes towards 0 from above", api.ArithDiv, 7, 2, 3},
		{"Div goes towards 0 from below", api.ArithDiv, -7, 2, -3},
		{"Div by one below 0", api.ArithDiv, 7, -2, -3},
		{"Div of the least by -1", api.ArithDiv, least, -1, least},
		{"Rem has the sign of a", api.ArithRem, -7, 2, -1},
		{"Rem by one below 0", api.ArithRem, 7, -2, 1},
		{"Rem of the least by -1", api.ArithRem, least, -1, 0},
		{"Neg", api.ArithNeg, 5, 0, -5},
		{"Neg of the least", api.ArithNeg, least, 0, least},
		{"Neg does not look at b", api.ArithNeg, -5, most, 5},
		{"And", api.ArithAnd, -4, 6, 4},
		{"Or", api.ArithOr, -4, 1, -3},
		{"Xor", api.ArithXor, -1, 5, -6},
		{"Shl into the sign", api.ArithShl, 1, 31, least},
		{"Shl by 32 is by 0", api.ArithShl, 1, 32, 1},
		{"Shl by -1 is by 31", api.ArithShl, 3, -1, least},
		{"Shl loses the highest", api.ArithShl, most, 1, -2},
		{"Shr brings in the sign", api.ArithShr, least, 31, -1},
		{"Shr goes down", api.ArithShr, -7, 1, -4},
		{"Shr by 33 is by 1", api.ArithShr, 8, 33, 4},
		{"Shr by -31 is by 1", api.ArithShr, 8, -31, 4},
		{"Ushr brings in 0", api.ArithUshr, -1, 1, most},
		{"Ushr by 0 keeps the sign", api.ArithUshr, -1, 0, -1},
		{"Ushr by 64 is by 0", api.ArithUshr, least, 64, least},
		{"Ushr by the least is by 0", api.ArithUshr, -9, least, -9},
	} {
		if got, has := arith.Do(row.op, row.a, row.b); got != row.want || !has {
			t.Errorf("%s: Do(%d, %d, %d) = %d, %v; want %d, true", row.name, row.op, row.a, row.b, got, has, row.want)
		}
	}
}

func TestP1_1EveryOperation(t *testing.T) {
	for op := api.ArithAdd; op <= api.ArithUshr; op++ {
		pairs(func(a, b int) {
			got, has := arith.Do(op, a, b)
			value, is := want(op, a, b)
			if got != value || has != is {
				t.Fatalf("Do(%d, %d, %d) = %d, %v; want %d, %v", op, a, b, got, has, value, is)
			}
		})
	}
}

func TestP1_1NoOperation(t *testing.T) {
	for _, op := range []int{-1, api.ArithUshr + 1, 100, 1 << 32, math.MinInt64, math.MaxInt64} {
		expectNone(t, op, 6, 3)
	}
}

func TestP1_1NoNumber(t *testing.T) {
	for op := api.ArithAdd; op <= api.ArithUshr; op++ {
		for _, x := range outside {
			expectNone(t, op, x, 1)
			expectNone(t, op, 1, x)
			expectNone(t, op, x, x)
		}
	}
}

func TestP1_1ByZero(t *testing.T) {
	for _, a := range edges {
		expectNone(t, api.ArithDiv, a, 0)
		expectNone(t, api.ArithRem, a, 0)
	}
}

func expectNone(t *testing.T, op, a, b int) {
	t.Helper()
	if value, has := arith.Do(op, a, b); value != 0 || has {
		t.Errorf("Do(%d, %d, %d) = %d, %v; want 0, false", op, a, b, value, has)
	}
}

func TestP1_2EitherRow(t *testing.T) {
	pairs(func(a, b int) {
		for _, op := range []int{api.ArithAdd, api.ArithMul} {
			if must(t, op, a, b) != must(t, op, b, a) {
				t.Fatalf("operation %d differs by row for %d and %d", op, a, b)
			}
		}
	})
}

func TestP1_2SubUndoesAdd(t *testing.T) {
	pairs(func(a, b int) {
		if back := must(t, api.ArithSub, must(t, api.ArithAdd, a, b), b); back != a {
			t.Fatalf("%d + %d - %d = %d", a, b, b, back)
		}
	})
}

func TestP1_2DivAndRem(t *testing.T) {
	pairs(func(a, b int) {
		if b == 0 {
			return
		}
		product := must(t, api.ArithMul, must(t, api.ArithDiv, a, b), b)
		if sum := must(t, api.ArithAdd, product, must(t, api.ArithRem, a, b)); sum != a {
			t.Fatalf("Div times b and Rem of %d by %d come to %d", a, b, sum)
		}
	})
}

func TestR5FromSeveralGoroutines(t *testing.T) {
	var all sync.WaitGroup
	for op := api.ArithAdd; op <= api.ArithUshr; op++ {
		all.Go(func() {
			for _, a := range edges {
				got, has := arith.Do(op, a, 3)
				if value, is := want(op, a, 3); got != value || has != is {
					t.Errorf("Do(%d, %d, 3) = %d, %v; want %d, %v", op, a, got, has, value, is)
				}
			}
		})
	}
	all.Wait()
}

func BenchmarkDo(b *testing.B) {
	for i := range b.N {
		arith.Do(i%12, i&0xffff, 3)
	}
}
