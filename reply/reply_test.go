package reply_test

import (
	"bytes"
	"math"
	"slices"
	"strings"
	"testing"

	"seepage/api"
	"seepage/reply"
)

const (
	least = math.MinInt64
	most  = math.MaxInt64
)

// form expects the bytes and the line of a valid reply, and reads them again.
func form(t *testing.T, r api.Reply, line string, want ...byte) {
	t.Helper()
	if e := reply.Check(r); e != api.OK {
		t.Errorf("Check(%v): error %d", r, e)
	}
	if got, e := reply.Put(r); !bytes.Equal(got, want) || e != api.OK {
		t.Errorf("Put(%v) = %v, error %d; expected %v", r, got, e, want)
	}
	for _, rest := range [][]byte{nil, {0}, {255, 1}} {
		if got, n, e := reply.Get(slices.Concat(want, rest)); !equal(got, r) || n != len(want) || e != api.OK {
			t.Errorf("Get(%v) = %v, %d, error %d; expected %v", want, got, n, e, r)
		}
	}
	for n := range want {
		noBytes(t, want[:n]...)
	}
	if got, e := reply.Line(r); got != line || e != api.OK {
		t.Errorf("Line(%v) = %q, error %d; expected %q", r, got, e, line)
	}
	if got, e := reply.Parse(line); !equal(got, r) || e != api.OK {
		t.Errorf("Parse(%q) = %v, error %d; expected %v", line, got, e, r)
	}
}

// equal reports whether two replies are the same, without the function of that name.
func equal(a, b api.Reply) bool {
	return a.Op == b.Op && a.Err == b.Err && a.Yes == b.Yes && slices.Equal(a.IDs, b.IDs) && slices.Equal(a.Nums, b.Nums)
}

// wrong expects that a reply is not valid.
func wrong(t *testing.T, r api.Reply, want api.Errno) {
	t.Helper()
	if e := reply.Check(r); e != want {
		t.Errorf("Check of Op %d, Err %d, Yes %t, %d IDs, %d Nums: error %d, expected %d", r.Op, r.Err, r.Yes, len(r.IDs), len(r.Nums), e, want)
	}
	if b, e := reply.Put(r); len(b) != 0 || e != want {
		t.Errorf("Put of Op %d: %d bytes, error %d, expected %d", r.Op, len(b), e, want)
	}
	if s, e := reply.Line(r); s != "" || e != want {
		t.Errorf("Line of Op %d: %q, error %d, expected %d", r.Op, s, e, want)
	}
}

// noBytes expects that bytes do not begin with those of a reply.
func noBytes(t *testing.T, b ...byte) {
	t.Helper()
	if r, n, e := reply.Get(b); !equal(r, api.Reply{}) || n != 0 || e != api.ErrForm {
		t.Errorf("Get(%v) = %v, %d, error %d", b[:min(len(b), 30)], r, n, e)
	}
	if l, e := reply.GetAll(b); len(b) > 0 && (len(l) != 0 || e != api.ErrForm) {
		t.Errorf("GetAll(%v) = %v, error %d", b[:min(len(b), 30)], l, e)
	}
}

// noLine expects that a string is not the line of a reply.
func noLine(t *testing.T, s string) {
	t.Helper()
	if r, e := reply.Parse(s); !equal(r, api.Reply{}) || e != api.ErrForm {
		t.Errorf("Parse(%q) = %v, error %d", s[:min(len(s), 60)], r, e)
	}
}

func ids(l ...uint64) []uint64 {
	return l
}

func nums(l ...int64) []int64 {
	return l
}

// P41.2 to P41.4: the chapter's examples.
func TestExamples(t *testing.T) {
	form(t, api.Reply{Op: api.OpAdd, Nums: nums(1)}, "add ok 1", 1, 0, 0, 0, 1, 2)
	form(t, api.Reply{Op: api.OpCluster, IDs: ids(300), Nums: nums(-2)}, "cluster ok 300 -2", 6, 0, 0, 1, 172, 2, 1, 3)
	form(t, api.Reply{Op: api.OpMinimax, Yes: true, Nums: nums(7)}, "minimax ok yes 7", 8, 0, 1, 0, 1, 14)
	form(t, api.Reply{Op: api.OpMinimax}, "minimax ok no", 8, 0, 0, 0, 0)
	form(t, api.Reply{Op: api.OpMerges, IDs: ids(1, 2, 1, 3), Nums: nums(5, 7)}, "merges ok 1 2 5 1 3 7", 9, 0, 0, 4, 1, 2, 1, 3, 2, 10, 14)
	form(t, api.Reply{Op: api.OpTick, Err: api.ErrTime}, "tick error 10", 2, 10, 0, 0, 0)
	form(t, api.Reply{Err: api.ErrForm}, "- error 15", 0, 15, 0, 0, 0)
	noLine(t, "add ok 01")
	noLine(t, "add  ok 1")
	noLine(t, "add ok")
}

// row is a row of the chapter's table.
type row struct {
	word      string
	ids, nums int
	number    string
}

// table is the chapter's table.
func table() []row {
	return []row{
		1:  {"add", 0, 1, "one"},
		2:  {"tick", 0, 1, "one"},
		3:  {"connected", 0, 0, "none"},
		4:  {"size", 0, 1, "one"},
		5:  {"count", 0, 3, "one"},
		6:  {"cluster", 1, 1, "one"},
		7:  {"clusters", 1, 1, "any"},
		8:  {"minimax", 0, 1, "yes"},
		9:  {"merges", 2, 1, "any"},
		10: {"sweep", 0, 4, "any"},
		11: {"random", 0, 3, "any"},
		12: {"histo", 0, 1, "any"},
		13: {"bridges", 1, 0, "any"},
		14: {"cores", 1, 1, "any"},
		15: {"stats", 0, 5, "one"},
	}
}

// entries returns a reply with so many IDs and Nums, and the words of whole entries.
func entries(op, n, k int) (api.Reply, string) {
	r, line := api.Reply{Op: api.Op(op)}, ""
	for i := range n {
		r.IDs = append(r.IDs, uint64(i))
	}
	for i := range k {
		r.Nums = append(r.Nums, int64(i)-2)
	}
	digits := []string{"-2", "-1", "0", "1", "2", "3", "4", "5", "6", "7", "8", "9", "10", "11", "12", "13"}
	x := table()[op]
	for i := 0; (i+1)*x.ids <= n && (i+1)*x.nums <= k && x.ids+x.nums > 0; i++ {
		for j := range x.ids {
			line += " " + digits[i*x.ids+j+2]
		}
		for j := range x.nums {
			line += " " + digits[i*x.nums+j]
		}
	}
	return r, line
}

// bytesOf returns the bytes of a reply without an error, of small numbers.
func bytesOf(r api.Reply) []byte {
	b := []byte{byte(r.Op), 0, 0, byte(len(r.IDs))}
	if r.Yes {
		b[2] = 1
	}
	for _, id := range r.IDs {
		b = append(b, byte(id))
	}
	b = append(b, byte(len(r.Nums)))
	for _, x := range r.Nums {
		if x < 0 {
			b = append(b, byte(-2*x-1))
		} else {
			b = append(b, byte(2*x))
		}
	}
	return b
}

// P41.1 to P41.4: each kind with each number of IDs and Nums, and each answer.
func TestKinds(t *testing.T) {
	for op, x := range table() {
		if op == 0 {
			continue
		}
		for n := range 9 {
			for k := range 13 {
				for _, yes := range []bool{false, true} {
					r, line := entries(op, n, k)
					r.Yes = yes
					// whole says of how many entries the numbers are, if of any.
					whole, ok := 0, false
					for i := range 13 {
						if n == i*x.ids && k == i*x.nums {
							whole, ok = i, true
							break
						}
					}
					switch x.number {
					case "one":
						ok = ok && whole == 1
					case "yes":
						ok = ok && (whole == 1) == yes && whole <= 1
					}
					answer := ""
					if x.word == "connected" || x.word == "minimax" {
						answer = " no"
						if yes {
							answer = " yes"
						}
					} else {
						ok = ok && !yes
					}
					if ok {
						form(t, r, x.word+" ok"+answer+line, bytesOf(r)...)
					} else {
						wrong(t, r, api.ErrArg)
						noBytes(t, bytesOf(r)...)
					}
				}
			}
		}
	}
}

// P41.1 to P41.4: errors, of each kind.
func TestErrors(t *testing.T) {
	digits := []string{"0", "1", "2", "3", "4", "5", "6", "7", "8", "9", "10", "11", "12", "13", "14", "15", "16", "17", "18", "19", "20"}
	for op, x := range table() {
		for err := api.Errno(1); err <= 20; err++ {
			r := api.Reply{Op: api.Op(op), Err: err}
			word := x.word
			if op == 0 {
				word = "-"
			}
			line := word + " error " + digits[err]
			if op > 0 && err <= 18 || op == 0 && err == api.ErrForm {
				form(t, r, line, byte(op), byte(err), 0, 0, 0)
			} else {
				wrong(t, r, api.ErrArg)
				noBytes(t, byte(op), byte(err), 0, 0, 0)
				noLine(t, line)
			}
			wrong(t, api.Reply{Op: r.Op, Err: err, Yes: true}, api.ErrArg)
			wrong(t, api.Reply{Op: r.Op, Err: err, IDs: ids(1)}, api.ErrArg)
			wrong(t, api.Reply{Op: r.Op, Err: err, Nums: nums(1)}, api.ErrArg)
			noBytes(t, byte(op), byte(err), 1, 0, 0)
			noBytes(t, byte(op), byte(err), 0, 1, 1, 0)
			noBytes(t, byte(op), byte(err), 0, 0, 1, 1)
			noLine(t, line+" 1")
			noLine(t, line+" ")
			noLine(t, word+" error yes "+digits[err])
			noLine(t, word+" ok error "+digits[err])
			noLine(t, word+" "+digits[err])
			noLine(t, word+" no "+digits[err])
		}
		wrong(t, api.Reply{Op: api.Op(op), Err: -1}, api.ErrArg)
		wrong(t, api.Reply{Op: api.Op(op), Err: math.MaxInt}, api.ErrArg)
		wrong(t, api.Reply{Op: api.Op(op), Err: math.MinInt}, api.ErrArg)
		noBytes(t, byte(op), 255, 0, 0, 0)
		noLine(t, x.word+" error 0")
		noLine(t, x.word+" error -1")
		noLine(t, x.word+" error")
		noLine(t, x.word+" error ")
		noLine(t, x.word+" error 05")
		noLine(t, x.word+" error +5")
		noLine(t, x.word+" error 18446744073709551621")
		noLine(t, x.word)
	}
}

// P41.1 to P41.4: kinds that there are not.
func TestNoKinds(t *testing.T) {
	for _, op := range []api.Op{-1, 16, 17, 255, 256, 257, math.MaxInt, math.MinInt} {
		for _, r := range []api.Reply{{Op: op}, {Op: op, Err: api.ErrForm}, {Op: op, Err: api.ErrTime}, {Op: op, Nums: nums(1)}} {
			wrong(t, r, api.ErrArg)
		}
	}
	wrong(t, api.Reply{}, api.ErrArg)
	wrong(t, api.Reply{Yes: true}, api.ErrArg)
	wrong(t, api.Reply{Nums: nums(1)}, api.ErrArg)
	for _, op := range []byte{0, 16, 17, 128, 255} {
		noBytes(t, op, 0, 0, 0, 0)
		noBytes(t, op, 0, 0, 0, 1, 2)
	}
	noBytes(t, 16, 15, 0, 0, 0)
	for _, s := range []string{"", " ", "-", "- ok", "-  error 15", "add", "foo ok", "foo error 5", "Add ok 1", " add ok 1", "add ok 1 ", "ok 1", "ok", "error 5", "ad ok 1", "\n", "add ok 1\n", "add\tok\t1", "add ok\n1"} {
		noLine(t, s)
	}
}

// P41.3, P41.4: answers and numbers that have another form.
func TestForms(t *testing.T) {
	for _, s := range []string{
		"connected ok", "connected ok ", "connected ok yes no", "connected ok yes 1", "connected ok maybe", "connected ok Yes", "connected ok 1", "connected ok true",
		"minimax ok", "minimax ok yes", "minimax ok no 7", "minimax ok 7", "minimax ok yes 7 8", "minimax ok ye 7", "minimax ok yes yes", "minimax ok yes 07", "add ok yes 1", "add ok no",
		"add ok 1 2", "add ok -0", "add ok +1", "add ok 1_0", "add ok 0x1", "add ok 9223372036854775808", "add ok -9223372036854775809", "add ok x", "add ok ", "add okay 1", "add OK 1",
		"clusters ok 1", "clusters ok 1 2 3", "clusters ok -1 2", "clusters ok 18446744073709551616 2", "clusters ok 01 2", "clusters ok 1  2", "clusters ok ", "bridges ok -1", "bridges ok 1.5",
		"count ok 1 2", "count ok 1 2 3 4", "merges ok 1 2", "sweep ok 1 2 3", "random ok 1 2 3 4", "stats ok 1 2 3 4", "cores ok 1 2 3", "count ok", "stats ok", "size ok", "cluster ok",
	} {
		noLine(t, s)
	}
	form(t, api.Reply{Op: api.OpConnected, Yes: true}, "connected ok yes", 3, 0, 1, 0, 0)
	form(t, api.Reply{Op: api.OpConnected}, "connected ok no", 3, 0, 0, 0, 0)
	form(t, api.Reply{Op: api.OpCores, IDs: ids(0, math.MaxUint64), Nums: nums(least, most)}, "cores ok 0 -9223372036854775808 18446744073709551615 9223372036854775807",
		14, 0, 0, 2, 0, 255, 255, 255, 255, 255, 255, 255, 255, 255, 1, 2, 255, 255, 255, 255, 255, 255, 255, 255, 255, 1, 254, 255, 255, 255, 255, 255, 255, 255, 255, 1)
	for yes := byte(2); yes > 0; yes++ {
		noBytes(t, 3, 0, yes, 0, 0)
	}
	// Numbers that are not in the shortest form.
	noBytes(t, 1, 0, 0, 128, 0, 1, 2)
	noBytes(t, 1, 0, 0, 0, 129, 0, 2)
	noBytes(t, 1, 0, 0, 0, 1, 130, 0)
	noBytes(t, 13, 0, 0, 1, 130, 0, 0)
	noBytes(t)
	noBytes(t, 1)
	noBytes(t, 1, 0)
	noBytes(t, 13, 0, 0, 255, 255, 255, 255, 255, 255, 255, 255, 255, 1, 0)
	noBytes(t, 12, 0, 0, 0, 255, 255, 255, 255, 255, 255, 255, 255, 255, 1)
}

// P41.1: as many numbers as there can be, and more.
func TestLong(t *testing.T) {
	many, more := make([]int64, api.MaxSlots), make([]int64, api.MaxSlots+4)
	some, others := make([]uint64, api.MaxSlots), make([]uint64, api.MaxSlots+2)
	for _, r := range []api.Reply{{Op: api.OpHisto, Nums: many}, {Op: api.OpSweep, Nums: many}, {Op: api.OpBridges, IDs: some}, {Op: api.OpCores, IDs: some, Nums: many}, {Op: api.OpMerges, IDs: some, Nums: many[:api.MaxSlots/2]}} {
		b, e := reply.Put(r)
		if e != api.OK {
			t.Fatalf("Put of Op %d: error %d", r.Op, e)
		}
		if got, n, e := reply.Get(b); !equal(got, r) || n != len(b) || e != api.OK {
			t.Errorf("Get of Op %d: %d bytes, error %d", r.Op, n, e)
		}
		line, e := reply.Line(r)
		if got, again := reply.Parse(line); !equal(got, r) || e != api.OK || again != api.OK {
			t.Errorf("Parse of Op %d: errors %d, %d", r.Op, e, again)
		}
	}
	wrong(t, api.Reply{Op: api.OpHisto, Nums: more[:api.MaxSlots+1]}, api.ErrLong)
	wrong(t, api.Reply{Op: api.OpSweep, Nums: more}, api.ErrLong)
	wrong(t, api.Reply{Op: api.OpBridges, IDs: others[:api.MaxSlots+1]}, api.ErrLong)
	wrong(t, api.Reply{Op: api.OpMerges, IDs: others, Nums: many[:api.MaxSlots/2+1]}, api.ErrLong)
	wrong(t, api.Reply{Op: api.OpCores, IDs: others, Nums: more[:api.MaxSlots+2]}, api.ErrLong)
	wrong(t, api.Reply{Op: api.OpSweep, Nums: more[:api.MaxSlots+1]}, api.ErrArg)
	wrong(t, api.Reply{Op: api.OpCores, IDs: some, Nums: more}, api.ErrArg)
	wrong(t, api.Reply{Op: api.OpAdd, Nums: more}, api.ErrArg)
	wrong(t, api.Reply{Op: api.OpHisto, Yes: true, Nums: more}, api.ErrArg)
	wrong(t, api.Reply{Op: api.OpHisto, Err: 5, Nums: more}, api.ErrArg)
	// 65537 numbers of one byte each.
	noBytes(t, slices.Concat([]byte{12, 0, 0, 0, 129, 128, 4}, make([]byte, api.MaxSlots+1))...)
	noBytes(t, slices.Concat([]byte{13, 0, 0, 129, 128, 4}, make([]byte, api.MaxSlots+2))...)
	noLine(t, "histo ok"+strings.Repeat(" 0", api.MaxSlots+1))
	noLine(t, "bridges ok"+strings.Repeat(" 0", api.MaxSlots+1))
}

// P41.5
func TestSame(t *testing.T) {
	r := api.Reply{Op: 99, Err: -3, Yes: true, IDs: ids(1, 2), Nums: nums(3)}
	for i, other := range []api.Reply{
		{Op: 98, Err: -3, Yes: true, IDs: ids(1, 2), Nums: nums(3)}, {Op: 99, Err: -4, Yes: true, IDs: ids(1, 2), Nums: nums(3)}, {Op: 99, Err: -3, IDs: ids(1, 2), Nums: nums(3)},
		{Op: 99, Err: -3, Yes: true, IDs: ids(2, 1), Nums: nums(3)}, {Op: 99, Err: -3, Yes: true, IDs: ids(1), Nums: nums(3)}, {Op: 99, Err: -3, Yes: true, IDs: ids(1, 2), Nums: nums(4)},
		{Op: 99, Err: -3, Yes: true, IDs: ids(1, 2), Nums: nums(3, 3)}, {Op: 99, Err: -3, Yes: true, IDs: ids(1, 2)}, {Op: 99, Err: -3, Yes: true, Nums: nums(3)}, {},
	} {
		if reply.Same(r, other) || reply.Same(other, r) || !reply.Same(other, other) {
			t.Errorf("Same, %d", i)
		}
	}
	if !reply.Same(r, api.Reply{Op: 99, Err: -3, Yes: true, IDs: ids(1, 2), Nums: nums(3)}) || !reply.Same(api.Reply{IDs: ids(), Nums: nums()}, api.Reply{}) || !reply.Same(api.Reply{IDs: []uint64{}}, api.Reply{Nums: []int64{}}) {
		t.Errorf("Same")
	}
}

// R3: empty lists.
func TestEmptyLists(t *testing.T) {
	form(t, api.Reply{Op: api.OpClusters, IDs: []uint64{}, Nums: []int64{}}, "clusters ok", 7, 0, 0, 0, 0)
	form(t, api.Reply{Op: api.OpTick, Err: api.ErrTime, IDs: []uint64{}, Nums: []int64{}}, "tick error 10", 2, 10, 0, 0, 0)
}
