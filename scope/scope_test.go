package scope_test

import (
	"regexp"
	"slices"
	"strings"
	"testing"

	"gazette/api"
	"gazette/event"
	"gazette/scope"
)

// shape: what a scope is, written out once more in another way.
var shape = regexp.MustCompile(`\A(?:[a-z][a-z0-9]{0,11}(?:/[a-z][a-z0-9]{0,11}){0,3})?\z`)

const (
	longest = "abcdefghijkl"  // a name of 12 bytes
	tooLong = "abcdefghijklm" // of 13: none
)

// texts: all of up to so many bytes of an alphabet.
func texts(alphabet string, most int) []string {
	all := []string{""}
	last := all
	for range most {
		var next []string
		for _, s := range last {
			for i := range len(alphabet) {
				next = append(next, s+alphabet[i:i+1])
			}
		}
		all = append(all, next...)
		last = next
	}
	return all
}

// rights: scopes of few short names, all of them, and some of long ones.
func rights() []string {
	names := []string{"a", "b", "ab", "a1", longest}
	all := []string{""}
	last := names
	for range api.MaxDepth {
		all = append(all, last...)
		var next []string
		for _, s := range last {
			for _, n := range names {
				next = append(next, s+"/"+n)
			}
		}
		last = next
	}
	return all
}

// wrongs: texts that are no scopes.
func wrongs() []string {
	return []string{
		"/", "//", "///", "////", "/////", "/a", "a/", "a//b", "//a", "a//", "/a/", "/a/b", "a/b/", "a/b/c/d/", "/a/b/c/d", "a/b//d", "a/b/c//",
		"a/b/c/d/e", "a/b/c/d/e/f", longest + strings.Repeat("/"+longest, 4), strings.Repeat("a/", 1000) + "a", strings.Repeat("/", 100000), strings.Repeat("a", 100000),
		"A", "a/B", "A/b", "1", "a/1", "1a/b", "a/b/2c", "a b", " a", "a ", " ", "a/ b", "a /b", "a.b", "a\\b", "a:b", "a-b", "a_b", "a/*", "*", "..", "a/..", "./a",
		tooLong, "a/" + tooLong, tooLong + "/a", "a/b/c/" + tooLong, "a/" + tooLong + "/b",
		"\x00", "a\x00", "a/\x00", "a\n", "\na", "a/b\n", "\xff", "a/\xff", "\u00e4", "a/\u00e4", "a\u2215b", "\u0430/b",
	}
}

func TestRight(t *testing.T) {
	for _, s := range []string{
		"", "a", "z", "a0", "z9", "a/b", "a/a", "a/b/c", "a/b/c/d", "a/a/a/a", "x1/y2/z3/w4", longest, "a/" + longest, longest + "/a", longest + strings.Repeat("/"+longest, 3), "a00000000000/b",
	} {
		if !scope.Right(s) {
			t.Errorf("Right(%q)", s)
		}
	}
	for _, s := range rights() {
		if !scope.Right(s) {
			t.Errorf("Right(%q)", s)
		}
	}
}

func TestRightNot(t *testing.T) {
	for _, s := range wrongs() {
		if scope.Right(s) {
			t.Errorf("not Right(%.60q)", s)
		}
	}
}

// TestRightDepth: from no name to more than MaxDepth.
func TestRightDepth(t *testing.T) {
	for n := range 3 * api.MaxDepth {
		for _, name := range []string{"a", "z9", longest} {
			s := strings.Join(slices.Repeat([]string{name}, n), "/")
			if scope.Right(s) != (n <= api.MaxDepth) {
				t.Errorf("Right of %d names: %q", n, s)
			}
		}
	}
}

// TestRightNames: each place takes names, and just these; every byte at the beginning, within and at the end of one.
func TestRightNames(t *testing.T) {
	var l []string
	for i := range 256 {
		c := string([]byte{byte(i)})
		if c != "/" {
			l = append(l, c, c+"a", "a"+c+"a", "a"+c, "abcdefghijk"+c, longest+c)
		}
	}
	for _, n := range l {
		for _, s := range []string{n, n + "/b", "b/" + n, "b/" + n + "/b", "b/b/" + n + "/b", "b/b/b/" + n} {
			if scope.Right(s) != event.Name(n) {
				t.Errorf("Right(%q) is not %v", s, event.Name(n))
			}
		}
	}
}

// TestRightAll holds Right against its other form, over all short texts.
func TestRightAll(t *testing.T) {
	for _, s := range append(texts("a1/", 9), texts("az09A/ \n\xff", 4)...) {
		if scope.Right(s) != shape.MatchString(s) {
			t.Errorf("Right(%q) is not %v", s, shape.MatchString(s))
		}
	}
}

func TestUnder(t *testing.T) {
	for _, c := range []struct {
		s, top string
		want   bool
	}{
		{"", "", true}, {"a", "", true}, {"a/b/c/d", "", true}, {"", "a", false}, {"", "a/b", false},
		{"a", "a", true}, {"a/b", "a/b", true}, {"a/b/c/d", "a/b/c/d", true},
		{"a/b", "a", true}, {"a/b/c", "a", true}, {"a/b/c/d", "a", true}, {"a/b/c/d", "a/b", true}, {"a/b/c/d", "a/b/c", true},
		{"a", "a/b", false}, {"a/b", "a/b/c", false}, {"a", "a/b/c/d", false}, {"a/b/c", "a/b/c/d", false},
		{"ab", "a", false}, {"a1", "a", false}, {"a", "ab", false}, {"ab/c", "a", false}, {"ab/c", "a/c", false}, {"a/bc", "a/b", false}, {"a/b1", "a/b", false}, {"a/b1/c", "a/b", false},
		{"b", "a", false}, {"b/a", "a", false}, {"a/b", "b", false}, {"a/b", "a/c", false}, {"a/b/c", "a/c", false}, {"b/a/c", "a/c", false}, {"a/a", "a/a/a", false}, {"a/a/a", "a/a", true},
		{longest + "/" + longest, longest, true}, {longest, "abcdefghijk", false}, {"abcdefghijk", longest, false},
	} {
		if scope.Under(c.s, c.top) != c.want {
			t.Errorf("Under(%q, %q) is not %v", c.s, c.top, c.want)
		}
	}
}

// parts: the names of a scope.
func parts(s string) []string {
	if s == "" {
		return nil
	}
	return strings.Split(s, "/")
}

// TestUnderAll: the names of the one above are the first ones of the other one; over all pairs, each also by Up.
func TestUnderAll(t *testing.T) {
	l := rights()
	for _, s := range l {
		p := parts(s)
		ups := slices.Collect(scope.Up(s))
		for _, top := range l {
			q := parts(top)
			want := len(q) <= len(p) && slices.Equal(p[:len(q)], q)
			if scope.Under(s, top) != want {
				t.Fatalf("Under(%q, %q) is not %v", s, top, want)
			}
			if slices.Contains(ups, top) != want {
				t.Fatalf("Up(%q) = %q, and %q above it: %v", s, ups, top, want)
			}
		}
	}
}

func TestUp(t *testing.T) {
	for _, c := range []struct {
		s    string
		want []string
	}{
		{"", []string{""}},
		{"a", []string{"a", ""}},
		{"a/b", []string{"a/b", "a", ""}},
		{"a/b/c", []string{"a/b/c", "a/b", "a", ""}},
		{"a/b/c/d", []string{"a/b/c/d", "a/b/c", "a/b", "a", ""}},
		{"a/a/a/a", []string{"a/a/a/a", "a/a/a", "a/a", "a", ""}},
		{"ab1/c/" + longest, []string{"ab1/c/" + longest, "ab1/c", "ab1", ""}},
		{longest, []string{longest, ""}},
	} {
		var got []string
		for s := range scope.Up(c.s) {
			got = append(got, s)
		}
		if !slices.Equal(got, c.want) {
			t.Errorf("Up(%q) = %q", c.s, got)
		}
	}
}

// TestUpAll: by the names of each scope.
func TestUpAll(t *testing.T) {
	for _, s := range rights() {
		p := parts(s)
		var want []string
		for n := len(p); n >= 0; n-- {
			want = append(want, strings.Join(p[:n], "/"))
		}
		if got := slices.Collect(scope.Up(s)); !slices.Equal(got, want) {
			t.Errorf("Up(%q) = %q", s, got)
		}
	}
}

// TestUpStops: wherever yield says false, it is asked no more.
func TestUpStops(t *testing.T) {
	for _, s := range []string{"", "a", "a/b", "a/b/c", "a/b/c/d"} {
		all := slices.Collect(scope.Up(s))
		for n := range len(all) + 1 {
			var got []string
			scope.Up(s)(func(x string) bool {
				got = append(got, x)
				return len(got) != n
			})
			want := all
			if n > 0 { // at 0 it never says false
				want = all[:n]
			}
			if !slices.Equal(got, want) {
				t.Errorf("Up(%q), stopped at %d: %q", s, n, got)
			}
		}
	}
	for s := range scope.Up("a/b/c") {
		if s == "a/b" {
			break
		}
		if s != "a/b/c" {
			t.Errorf("%q ahead of a/b", s)
		}
	}
}

// TestUpAgain: one function goes over the same scopes however often, stopped or not, and within itself; two functions don't know of one another.
func TestUpAgain(t *testing.T) {
	up, other := scope.Up("a/b/c"), scope.Up("x/y")
	want := []string{"a/b/c", "a/b", "a", ""}
	for range 3 {
		if got := slices.Collect(up); !slices.Equal(got, want) {
			t.Fatalf("again: %q", got)
		}
		for range up {
			break
		}
		if got := slices.Collect(other); !slices.Equal(got, []string{"x/y", "x", ""}) {
			t.Fatalf("another one: %q", got)
		}
	}
	var got []string
	for s := range up {
		got = append(got, s)
		if inner := slices.Collect(up); !slices.Equal(inner, want) {
			t.Errorf("within itself: %q", inner)
		}
	}
	if !slices.Equal(got, want) {
		t.Errorf("around itself: %q", got)
	}
}

// TestUpThrown: what yield throws goes on, and the function goes over all again.
func TestUpThrown(t *testing.T) {
	up := scope.Up("a/b")
	func() {
		defer func() {
			if x := recover(); x != "thrown" {
				t.Errorf("taken back: %v", x)
			}
		}()
		up(func(string) bool { panic("thrown") })
	}()
	if got := slices.Collect(up); !slices.Equal(got, []string{"a/b", "a", ""}) {
		t.Errorf("behind it: %q", got)
	}
}

// TestEnds: whatever is handed in, all ends, nothing panics, and the same is answered again.
func TestEnds(t *testing.T) {
	l := append(wrongs(), "", "a", "a/b/c/d")
	for _, s := range l {
		scope.Up(s)(nil)
		count := 0
		last := ""
		for x := range scope.Up(s) {
			if count == 0 && x != s {
				t.Errorf("Up(%.60q) begins with %.60q", s, x)
			}
			count++
			last = x
		}
		if last != "" || count > len(s)+1 {
			t.Errorf("Up(%.60q) ends with %.60q, behind %d", s, last, count)
		}
		if scope.Right(s) != scope.Right(s) {
			t.Errorf("Right(%.60q) is not the same again", s)
		}
		for _, top := range l {
			if scope.Under(s, top) != scope.Under(s, top) {
				t.Errorf("Under(%.60q, %.60q) is not the same again", s, top)
			}
		}
	}
}
