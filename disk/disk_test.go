package disk

import (
	"bytes"
	"math"
	"math/rand"
	"slices"
	"strconv"
	"strings"
	"testing"

	"garner/api"
)

func fresh(t *testing.T, room int) *Disk {
	t.Helper()
	d, e := New(room)
	if e != api.OK || d == nil {
		t.Fatalf("New(%d): %v", room, e)
	}
	return d
}

func read(t *testing.T, d *Disk, name, want string) {
	t.Helper()
	if b, e := d.Read(name); string(b) != want || e != api.OK {
		t.Errorf("Read(%s) is %q, %v; want %q", name, b, e, want)
	}
}

func is(t *testing.T, what string, got, want api.Errno) {
	t.Helper()
	if got != want {
		t.Errorf("%s: %v, want %v", what, got, want)
	}
}

func TestExamples(t *testing.T) { // P3.1 to P3.4
	_, e := New(1023)
	is(t, "New(1023)", e, api.ErrArg)
	d := fresh(t, 1024)
	is(t, "Append(a b)", d.Append("a b", []byte("x")), api.ErrArg)
	is(t, "Append(a)", d.Append("a", []byte("xyz")), api.OK)
	_, e = d.Read("b")
	is(t, "Read(b)", e, api.ErrNone)
	is(t, "Sync(b)", d.Sync("b"), api.ErrNone)
	is(t, "Sync(a)", d.Sync("a"), api.OK)
	is(t, "Append(a)", d.Append("a", []byte("uv")), api.OK)
	if n, e := d.Lasting("a"); n != 3 || e != api.OK {
		t.Errorf("Lasting is %d, %v", n, e)
	}
	c, e := d.Crash(api.Kept{Name: "a", Loose: 1})
	is(t, "Crash", e, api.OK)
	read(t, c, "a", "xyzu")
	is(t, "Rename", d.Rename("a", "b"), api.OK)
	is(t, "Rename", d.Rename("a", "b"), api.ErrNone)
	if l := d.Names(); !slices.Equal(l, []string{"b"}) {
		t.Errorf("Names are %v", l)
	}
	is(t, "Append(c)", d.Append("c", make([]byte, 1020)), api.ErrFull)
	if d.Used() != 5 {
		t.Errorf("Used is %d", d.Used())
	}
	_, e = d.Crash(api.Kept{Name: "b", Loose: -1})
	is(t, "Crash(b -1)", e, api.ErrArg)
	_, e = d.Crash(api.Kept{Name: "b", Loose: 1}, api.Kept{Name: "b", Loose: 1})
	is(t, "Crash(b 1, b 1)", e, api.ErrArg)
	_, e = d.Crash(api.Kept{Name: "c", Loose: 1})
	is(t, "Crash(c 1)", e, api.ErrNone)
	c, e = d.Crash()
	is(t, "Crash()", e, api.OK)
	read(t, c, "b", "xyz")
}

func TestNewAndAppend(t *testing.T) { // P3.1
	for _, n := range []int{math.MinInt, -1, 0, 1023, 1048577, math.MaxInt} {
		if d, e := New(n); d != nil || e != api.ErrArg {
			t.Errorf("New(%d): %v, %v", n, d, e)
		}
	}
	if d := fresh(t, 1048576); d.Room() != 1048576 || d.Used() != 0 || len(d.Names()) != 0 {
		t.Error("a new disk is not empty")
	}
	d := fresh(t, 1024)
	for _, n := range []string{"", "a b", "\x20", "\x7f", "a\n", "\x80", strings.Repeat("n", 25)} {
		is(t, "Append of "+strconv.Quote(n), d.Append(n, make([]byte, 2000)), api.ErrArg)
	}
	is(t, "a long name", d.Append(strings.Repeat("~", 24), nil), api.OK)
	is(t, "a short name", d.Append("!", nil), api.OK)
	read(t, d, "!", "")
	src := []byte("abc")
	is(t, "Append", d.Append("!", src), api.OK)
	src[0] = 'z'
	read(t, d, "!", "abc")
	is(t, "up to the room", d.Append("x", make([]byte, 1021)), api.OK)
	is(t, "above the room", d.Append("x", make([]byte, 1)), api.ErrFull)
	is(t, "no bytes", d.Append("x", nil), api.OK)
	d = fresh(t, 1024)
	for i := range api.MaxFiles {
		is(t, "Append", d.Append(strconv.Itoa(i), nil), api.OK)
	}
	is(t, "one file more", d.Append("x", nil), api.ErrFull)
	is(t, "one that is there", d.Append("0", []byte("x")), api.OK)
	is(t, "Rename", d.Rename("0", "1"), api.OK)
	is(t, "one file more", d.Append("x", nil), api.OK)
}

func TestSync(t *testing.T) { // P3.1, P3.3
	d := fresh(t, 1024)
	is(t, "Sync", d.Sync(""), api.ErrArg)
	d.Append("a", []byte("ab"))
	if n, e := d.Lasting("a"); n != 0 || e != api.OK {
		t.Errorf("Lasting is %d, %v", n, e)
	}
	d.Sync("a")
	d.Append("a", []byte("c"))
	if n, _ := d.Lasting("a"); n != 2 {
		t.Errorf("Lasting is %d", n)
	}
	_, e := d.Lasting("b")
	is(t, "Lasting(b)", e, api.ErrNone)
	_, e = d.Lasting("b ")
	is(t, "Lasting(b )", e, api.ErrArg)
	_, e = d.Read("b ")
	is(t, "Read(b )", e, api.ErrArg)
}

func TestRename(t *testing.T) { // P3.2
	d := fresh(t, 1024)
	d.Append("a", []byte("aa"))
	d.Sync("a")
	d.Append("b", []byte("b"))
	is(t, "from", d.Rename("", "b"), api.ErrArg)
	is(t, "to", d.Rename("a", "b b"), api.ErrArg)
	is(t, "to, of none", d.Rename("x", "b b"), api.ErrArg)
	is(t, "none", d.Rename("x", "b"), api.ErrNone)
	is(t, "none to itself", d.Rename("x", "x"), api.ErrNone)
	is(t, "itself", d.Rename("b", "b"), api.OK)
	read(t, d, "b", "b")
	is(t, "over another", d.Rename("a", "b"), api.OK)
	read(t, d, "b", "aa")
	if n, _ := d.Lasting("b"); n != 2 || len(d.Names()) != 1 || d.Used() != 2 {
		t.Errorf("Lasting %d, Names %v, Used %d", n, d.Names(), d.Used())
	}
	is(t, "Remove", d.Remove(""), api.ErrArg)
	is(t, "Remove", d.Remove("a"), api.ErrNone)
	is(t, "Remove", d.Remove("b"), api.OK)
	if len(d.Names()) != 0 || d.Used() != 0 {
		t.Error("something is left")
	}
}

func TestLooking(t *testing.T) { // P3.3
	d := fresh(t, 1024)
	for _, n := range []string{"b", "a", "c", "B"} {
		d.Append(n, []byte("of "+n))
	}
	if l := d.Names(); !slices.Equal(l, []string{"B", "a", "b", "c"}) {
		t.Errorf("Names are %v", l)
	}
	all := d.All()
	d.Remove("c") // it is as it is when it begins
	for range 2 {
		var l []string
		for name, b := range all {
			l = append(l, name+"="+string(b))
			b[0] = 'x'
			d.Append("b", nil)
		}
		if !slices.Equal(l, []string{"B=of B", "a=of a", "b=of b"}) {
			t.Errorf("All is %v", l)
		}
	}
	for range all {
		break
	}
	b, _ := d.Read("a")
	b[0] = 'x'
	read(t, d, "a", "of a")
}

func TestCrash(t *testing.T) { // P3.4
	d := fresh(t, 1024)
	d.Append("a", []byte("ab"))
	d.Sync("a")
	d.Append("a", []byte("cd"))
	d.Append("b", []byte("x"))
	before := d.Copy()
	_, e := d.Crash(api.Kept{Name: "none", Loose: 1}, api.Kept{Name: "a", Loose: -1})
	is(t, "ErrArg ahead of ErrNone", e, api.ErrArg)
	_, e = d.Crash(api.Kept{Name: "a b"})
	is(t, "a name", e, api.ErrArg)
	c, e := d.Crash(api.Kept{Name: "a", Loose: math.MaxInt})
	is(t, "Crash", e, api.OK)
	read(t, c, "a", "abcd")
	read(t, c, "b", "")
	if n, _ := c.Lasting("a"); n != 4 {
		t.Errorf("Lasting is %d", n)
	}
	if !Same(d, before) {
		t.Error("the disk has changed")
	}
	c, _ = d.Crash(api.Kept{Name: "a", Loose: 0}, api.Kept{Name: "b", Loose: 1})
	read(t, c, "a", "ab")
	read(t, c, "b", "x")
	c.Append("a", []byte("zz"))
	read(t, d, "a", "abcd")
	if c.Room() != 1024 {
		t.Errorf("Room is %d", c.Room())
	}
}

func TestCopyAndSame(t *testing.T) { // P3.5
	d := fresh(t, 1024)
	d.Append("a", []byte("ab"))
	c := d.Copy()
	if !Same(c, d) {
		t.Error("a copy is another one")
	}
	c.Append("a", []byte("c"))
	read(t, d, "a", "ab")
	for i, change := range []func(d *Disk){
		func(d *Disk) { d.Append("a", []byte("c")) }, func(d *Disk) { d.Sync("a") }, func(d *Disk) { d.Append("b", nil) },
		func(d *Disk) { d.Rename("a", "b") }, func(d *Disk) { d.Remove("a") },
	} {
		c := d.Copy()
		change(c)
		if Same(c, d) || Same(d, c) {
			t.Errorf("change %d is not seen", i)
		}
	}
	if Same(fresh(t, 1024), fresh(t, 1025)) {
		t.Error("the room is not seen")
	}
	if !Same(nil, nil) || !Same(nil, &Disk{}) || Same(nil, d) || Same(d, &Disk{}) {
		t.Error("Same of nil is wrong")
	}
}

func TestNil(t *testing.T) { // P3.1 to P3.5
	for _, d := range []*Disk{nil, {}} {
		is(t, "Append", d.Append("", nil), api.ErrNil)
		is(t, "Sync", d.Sync(""), api.ErrNil)
		is(t, "Rename", d.Rename("", ""), api.ErrNil)
		is(t, "Remove", d.Remove(""), api.ErrNil)
		b, e := d.Read("")
		is(t, "Read", e, api.ErrNil)
		n, e := d.Lasting("")
		is(t, "Lasting", e, api.ErrNil)
		c, e := d.Crash(api.Kept{})
		is(t, "Crash", e, api.ErrNil)
		if b != nil || n != 0 || c != nil || d.Names() != nil || d.Room() != 0 || d.Used() != 0 || d.Copy() != nil {
			t.Error("something of nil is not zero")
		}
		for range d.All() {
			t.Error("there is something in nil")
		}
	}
}

func TestWhatLasts(t *testing.T) { // P3.6, P0.2
	r := rand.New(rand.NewSource(1))
	d := fresh(t, 1024)
	for range 5000 {
		a, b := strconv.Itoa(r.Intn(5)), strconv.Itoa(r.Intn(5))
		switch r.Intn(8) {
		case 0, 1, 2:
			x := make([]byte, r.Intn(90))
			r.Read(x)
			d.Append(a, x)
		case 3:
			d.Sync(a)
		case 4:
			d.Rename(a, b)
		case 5:
			d.Remove(a)
		default:
			var keep []api.Kept
			for _, n := range d.Names() {
				if r.Intn(2) == 0 {
					keep = append(keep, api.Kept{Name: n, Loose: r.Intn(60)})
				}
			}
			c, e := d.Crash(keep...)
			if e != api.OK || !slices.Equal(c.Names(), d.Names()) {
				t.Fatalf("Crash: %v, %v of %v", e, c.Names(), d.Names())
			}
			for n, was := range d.All() {
				is, _ := c.Read(n)
				lasted, _ := d.Lasting(n)
				lasts, _ := c.Lasting(n)
				if !bytes.HasPrefix(was, is) || len(is) < lasted || lasts != len(is) {
					t.Fatalf("%s had % x, of which %d lasted; it has % x", n, was, lasted, is)
				}
			}
			if r.Intn(3) == 0 {
				d = c
			}
		}
		if d.Used() > d.Room() {
			t.Fatalf("%d bytes on a disk of %d", d.Used(), d.Room())
		}
	}
}
