package tree

import (
	"strings"
	"testing"

	"cellarer/api"
)

func file(path string, data string) api.File { return api.File{Path: path, Data: []byte(data)} }

func paths(l []api.File) string {
	s := ""
	for _, f := range l {
		s += f.Path + " "
	}
	return s
}

func TestName(t *testing.T) {
	for s, want := range map[string]bool{
		"": false, "a": true, "!": true, "~": true, " ": false, "\x7f": false, "a b": false, "ab\n": false, "é": false,
		strings.Repeat("x", api.MaxPath): true, strings.Repeat("x", api.MaxPath+1): false, "a/b": true, "\x00": false, "\xff": false,
	} {
		if Name(s) != want {
			t.Errorf("%q: %v", s, !want)
		}
	}
}

func TestCheck(t *testing.T) {
	long := string(make([]byte, api.MaxData+1))
	many := []api.File{file("a", ""), file("b", ""), file("c", ""), file("d", ""), file("e", ""), file("f", ""), file("g", "")}
	cases := []struct {
		l []api.File
		e api.Errno
	}{
		{nil, api.OK},
		{[]api.File{file("a", "")}, api.OK},
		{[]api.File{file("a", long[1:])}, api.OK},
		{many[:api.MaxFiles], api.OK},
		{many, api.ErrLen},
		{[]api.File{file("a", long)}, api.ErrLen},
		{[]api.File{file("", ""), file("a", long)}, api.ErrLen},
		{[]api.File{file("", "")}, api.ErrArg},
		{[]api.File{file("a", ""), file("a", "")}, api.ErrArg},
		{[]api.File{file("b", ""), file("a", "")}, api.ErrArg},
		{[]api.File{file("B", ""), file("a", ""), file("aa", "")}, api.OK},
	}
	for i, c := range cases {
		if e := Check(c.l); e != c.e {
			t.Errorf("case %d: %d, not %d", i, e, c.e)
		}
	}
}

func TestSort(t *testing.T) {
	l := []api.File{file("b", "2"), file("a", "1"), file("B", "0"), file("ab", "3")}
	got, e := Sort(l)
	if e != api.OK || paths(got) != "B a ab b " || string(got[0].Data) != "0" || string(got[3].Data) != "2" {
		t.Error(got, e)
	}
	if paths(l) != "b a B ab " {
		t.Error("the argument was changed")
	}
	got[3].Data[0] = 'x'
	if string(l[0].Data) != "2" {
		t.Error("the result shares memory with the argument")
	}
	if Check(got) != api.OK {
		t.Error("the result is no valid tree")
	}
	again, e := Sort(got)
	if e != api.OK || !Same(again, got) {
		t.Error(again, e)
	}
}

func TestSortErrors(t *testing.T) {
	long := string(make([]byte, api.MaxData+1))
	cases := []struct {
		l []api.File
		e api.Errno
	}{
		{make([]api.File, api.MaxFiles+1), api.ErrLen},
		{[]api.File{file("", ""), file("", long)}, api.ErrLen},
		{[]api.File{file("a", ""), file("a", ""), file(" ", "")}, api.ErrArg},
		{[]api.File{file("a", ""), file("b", ""), file("a", "")}, api.ErrTwice},
		{nil, api.OK},
	}
	for i, c := range cases {
		if l, e := Sort(c.l); e != c.e || len(l) != 0 {
			t.Errorf("case %d: %v, %d", i, l, e)
		}
	}
}

func TestSame(t *testing.T) {
	a := []api.File{file("a", "1"), file("b", "")}
	cases := []struct {
		b    []api.File
		want bool
	}{
		{[]api.File{file("a", "1"), {Path: "b"}}, true},
		{[]api.File{file("a", "1")}, false},
		{[]api.File{file("a", "1"), file("b", "x")}, false},
		{[]api.File{file("a", "1"), file("c", "")}, false},
		{[]api.File{file("b", ""), file("a", "1")}, false},
		{nil, false},
	}
	for i, c := range cases {
		if Same(a, c.b) != c.want || Same(c.b, a) != c.want {
			t.Error("case", i)
		}
	}
	if !Same(nil, []api.File{}) {
		t.Error("no files differ from no files")
	}
}

func TestSize(t *testing.T) {
	if Size(nil) != 0 || Size([]api.File{file("a", "123"), file("a", ""), file("", "45")}) != 5 {
		t.Error("size")
	}
}
