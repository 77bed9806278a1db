package truth_test

import (
	digits "math/bits"
	"testing"

	"sequent/api"
)

// TestClasses has each class with tables that are in it and tables that are not: a digit a class, in their order.
func TestClasses(t *testing.T) {
	for _, c := range []struct{ what, bits, want string }{
		{"false", "0", "10011"},
		{"true", "1", "01011"},
		{"false of one", "00", "10011"},
		{"true of one", "11", "01011"},
		{"same", "01", "11111"},
		{"not", "10", "00101"},
		{"and", "0001", "11010"},
		{"or", "0111", "11010"},
		{"then", "1011", "01000"},
		{"nand", "1110", "00000"},
		{"nor", "1000", "00000"},
		{"sum", "0110", "10001"},
		{"sum and 1", "1001", "01001"},
		{"first alone", "0101", "11111"},
		{"second alone", "0011", "11111"},
		{"not the first", "1010", "00101"},
		{"first and not second", "0100", "10000"},
		{"sum of three", "01101001", "11101"},
		{"sum of three and 1", "10010110", "00101"},
		{"most of three", "00010111", "11110"},
		{"fewest of three", "11101000", "00100"},
		{"if first, second, else third", "00011011", "11000"},
		{"sum of four", "0110100110010110", "10001"},
		{"and of four", "0000000000000001", "11010"},
		{"nand of four", "1111111111111110", "00000"},
		{"fourth alone", "0000000011111111", "11111"},
		{"false of four", "0000000000000000", "10011"},
		{"true but for one row between", "0111111111111011", "11000"},
	} {
		is, all, e := complete(t, c.what, []api.Table{table(c.bits)})
		sameFault(t, c.what, e, api.Fault{})
		for i, digit := range c.want {
			if all[i] != (digit == '1') {
				t.Errorf("%s: class %d: %v", c.what, i, all[i])
			}
		}
		if is != (c.want == "00000") {
			t.Errorf("%s: complete is %v", c.what, is)
		}
	}
}

func TestComplete(t *testing.T) {
	for _, c := range []struct {
		what string
		l    []string
		all  [5]bool
		is   bool
	}{
		{"nothing", nil, [5]bool{true, true, true, true, true}, false},
		{"nand", []string{"1110"}, [5]bool{}, true},
		{"nand twice", []string{"1110", "1110"}, [5]bool{}, true},
		{"nand and false", []string{"1110", "0"}, [5]bool{}, true},
		{"and, not", []string{"0001", "10"}, [5]bool{}, true},
		{"or, not", []string{"0111", "10"}, [5]bool{}, true},
		{"and, or", []string{"0001", "0111"}, [5]bool{0: true, 1: true, 3: true}, false},
		{"and, sum", []string{"0001", "0110"}, [5]bool{0: true}, false},
		{"and, sum, true", []string{"0001", "0110", "1"}, [5]bool{}, true},
		{"or, sum and 1", []string{"0111", "1001"}, [5]bool{1: true}, false},
		{"then", []string{"1011"}, [5]bool{1: true}, false},
		{"then, false", []string{"1011", "0"}, [5]bool{}, true},
		{"then, false of four", []string{"1011", "0000000000000000"}, [5]bool{}, true},
		{"not, most of three", []string{"10", "00010111"}, [5]bool{2: true}, false},
		{"and, or, both constants", []string{"0001", "0111", "0", "1"}, [5]bool{3: true}, false},
		{"sum, not, true", []string{"0110", "10", "11"}, [5]bool{4: true}, false},
		{"most of three, sum of three, true", []string{"00010111", "01101001", "1"}, [5]bool{1: true}, false},
		{"most of three, sum of three, both", []string{"00010111", "01101001", "1", "0"}, [5]bool{}, true},
	} {
		var l []api.Table
		for _, text := range c.l {
			l = append(l, table(text))
		}
		is, all, e := complete(t, c.what, l)
		sameFault(t, c.what, e, api.Fault{})
		if is != c.is || all != c.all {
			t.Errorf("%s: %v, %v, want %v, %v", c.what, is, all, c.is, c.all)
		}
	}
}

func TestCompleteFaults(t *testing.T) {
	and := table("0001")
	ands := func(n int, last ...api.Table) []api.Table {
		var l []api.Table
		for range n {
			l = append(l, and)
		}
		return append(l, last...)
	}
	short, below := api.Table{N: 2, Bits: make([]bool, 3)}, api.Table{N: -1}
	for _, c := range []struct {
		what string
		l    []api.Table
		want api.Fault
	}{
		{"20 tables", ands(20), api.Fault{}},
		{"21 tables", ands(21), fault(api.ErrMany, 0)},
		{"very many", make([]api.Table, 1<<20), fault(api.ErrMany, 0)},
		{"too many ahead of the others", ands(19, below, short), fault(api.ErrMany, 0)},
		{"the last of 20", ands(19, short), fault(api.ErrSize, 19)},
		{"N below zero", ands(1, below), fault(api.ErrRange, 1)},
		{"N of five", ands(2, api.Table{N: 5, Bits: make([]bool, 32)}), fault(api.ErrRange, 2)},
		{"least N", ands(0, api.Table{N: -1 << 63}), fault(api.ErrRange, 0)},
		{"greatest N", ands(0, api.Table{N: 1<<63 - 1, Bits: make([]bool, 0)}), fault(api.ErrRange, 0)},
		{"N of 64", ands(0, api.Table{N: 64}), fault(api.ErrRange, 0)},
		{"zero table", ands(1, api.Table{}), fault(api.ErrSize, 1)},
		{"no bits", ands(0, api.Table{N: 2}), fault(api.ErrSize, 0)},
		{"range ahead of size, in one table", ands(0, api.Table{N: 5, Bits: make([]bool, 3)}), fault(api.ErrRange, 0)},
		{"size ahead of range, in the next", ands(1, short, below), fault(api.ErrSize, 1)},
		{"range ahead of size, in the next", ands(1, below, short), fault(api.ErrRange, 1)},
		{"fault where it is complete", []api.Table{table("1110"), short}, fault(api.ErrSize, 1)},
		{"very many bits", ands(3, api.Table{N: 4, Bits: make([]bool, 1<<20)}), fault(api.ErrSize, 3)},
	} {
		_, _, e := complete(t, c.what, c.l)
		sameFault(t, c.what, e, c.want)
	}
}

func TestCompleteSizes(t *testing.T) {
	for n := range 5 {
		for length := range 40 {
			want := api.Fault{}
			if length != 1<<n {
				want = fault(api.ErrSize, 1)
			}
			_, _, e := complete(t, "sizes", []api.Table{table("01"), {N: n, Bits: make([]bool, length)}})
			sameFault(t, "sizes", e, want)
		}
	}
}

// TestClassesOfAllTables reads the classes' words once more, as plainly as can be, of all tables of up to three values and some of four.
func TestClassesOfAllTables(t *testing.T) {
	for n := range 5 {
		step := 1
		if n == 4 {
			step = 7
		}
		for number := 0; number < 1<<(1<<n); number += step {
			_, all, e := complete(t, "one", []api.Table{tableOf(n, number)})
			sameFault(t, "one", e, api.Fault{})
			if want := classesOf(n, number); all != want {
				t.Fatalf("%d values, table %b: %v, want %v", n, number, all, want)
			}
		}
	}
}

func classesOf(n, number int) [5]bool {
	at := func(row int) int { return number >> row & 1 }
	last := 1<<n - 1
	all := [5]bool{at(0) == 0, at(last) == 1, true, true, false}
	for a := range last + 1 {
		all[2] = all[2] && at(a) != at(last^a)
		for b := range last + 1 {
			if a&b == a && at(a) > at(b) {
				all[3] = false
			}
		}
	}
	for some := range last + 1 {
		for one := range 2 {
			isThis := true
			for a := range last + 1 {
				isThis = isThis && at(a) == (digits.OnesCount(uint(some&a))+one)%2
			}
			all[4] = all[4] || isThis
		}
	}
	return all
}

// TestPost puts functions into each other, from the two values on, and looks whether all 16 come out.
func TestPost(t *testing.T) {
	var small []api.Table
	for n := range 3 {
		for number := range 1 << (1 << n) {
			small = append(small, tableOf(n, number))
		}
	}
	for i, a := range small {
		for j, b := range small[:i+1] {
			for _, c := range small[:j+1] {
				post(t, []api.Table{a, b, c})
			}
		}
	}
	for number := range 1 << 8 {
		a := tableOf(3, number)
		post(t, []api.Table{a})
		for _, b := range small[:6] {
			post(t, []api.Table{a, b})
		}
	}
	for number := 0; number < 1<<16; number += 1237 {
		post(t, []api.Table{tableOf(4, number)})
		post(t, []api.Table{tableOf(4, number), tableOf(0, 1), tableOf(2, number&15)})
	}
}

func post(t *testing.T, l []api.Table) {
	t.Helper()
	is, _, e := complete(t, "post", l)
	sameFault(t, "post", e, api.Fault{})
	if n := len(madeOf(l)); is != (n == 16) {
		t.Fatalf("%v: complete is %v, and %d functions of two values can be made", l, is, n)
	}
}

// madeOf are all functions of two values that can be made, each as the digits of its rows.
func madeOf(l []api.Table) map[int]bool {
	have := map[int]bool{0b1010: true, 0b1100: true}
	for before := 0; before < len(have) && len(have) < 16; {
		before = len(have)
		var args []int
		for f := range have {
			args = append(args, f)
		}
		for _, t := range l {
			puts(t, args, nil, have)
		}
	}
	return have
}

// puts puts all choices of args, behind those that are chosen, into t.
func puts(t api.Table, args, chosen []int, have map[int]bool) {
	if len(chosen) < t.N && len(have) < 16 {
		for _, a := range args {
			puts(t, args, append(chosen, a), have)
		}
		return
	}
	if len(chosen) < t.N {
		return
	}
	f := 0
	for row := range 4 {
		at := 0
		for i, a := range chosen {
			at |= a >> row & 1 << i
		}
		if t.Bits[at] {
			f |= 1 << row
		}
	}
	have[f] = true
}
