package snap

import (
	"slices"
	"testing"

	"swath/api"
)

// ups are links with these numbers above them.
func ups(l ...int) []api.Link {
	var links []api.Link
	for n, up := range l {
		links = append(links, link(up, n))
	}
	return links
}

func wantChain(t testing.TB, l []api.Link, n int, want ...int) {
	t.Helper()
	before := text(l)
	if got := Chain(l, n); !slices.Equal(got, want) {
		t.Errorf("the chain of %d of %v is %v instead of %v", n, l, got, want)
	}
	if text(l) != before {
		t.Errorf("%s has become %v", before, l)
	}
}

func TestChain(t *testing.T) { // P17.2
	l := ups(-1, 0, 1, 0, -1, 2, 4, 6, 5)
	wantChain(t, l, 0, 0)
	wantChain(t, l, 1, 0, 1)
	wantChain(t, l, 2, 0, 1, 2)
	wantChain(t, l, 3, 0, 3)
	wantChain(t, l, 4, 4)
	wantChain(t, l, 5, 0, 1, 2, 5)
	wantChain(t, l, 6, 4, 6)
	wantChain(t, l, 7, 4, 6, 7)
	wantChain(t, l, 8, 0, 1, 2, 5, 8)
}

func TestNoSuchLink(t *testing.T) { // P17.2
	for _, l := range [][]api.Link{nil, {}, ups(-1), ups(-1, 0, 1)} {
		for _, n := range edges {
			if n < 0 || n >= len(l) {
				wantChain(t, l, n)
			}
		}
		wantChain(t, l, len(l))
		wantChain(t, l, len(l)+1)
		wantChain(t, l, -len(l))
	}
}

// TestUp: each number as the Up of the first, of one midway and of the last link of a chain.
func TestUp(t *testing.T) { // P17.2
	for at := range 5 {
		for _, up := range append([]int{-3, 4, 5, 6, 7}, edges...) {
			l := ups(-1, 0, 1, 2, 3)
			l[at].Up = up
			for n := range l {
				wantChain(t, l, n, chainOf(l, n)...)
			}
			if up >= at || up < -1 {
				for n := at; n < len(l); n++ {
					wantChain(t, l, n)
				}
			}
		}
	}
	wantChain(t, ups(0), 0)
	wantChain(t, ups(1, -1), 0)
	wantChain(t, ups(1, -1), 1, 1)
	wantChain(t, ups(-2), 0)
	wantChain(t, ups(1, 0), 1)
	wantChain(t, ups(-1, 0, 2, 2, 3), 4)
	wantChain(t, ups(-1, 0, -1, 2, 3), 4, 2, 3, 4)
	wantChain(t, ups(-1, 0, -2, 2, 3), 4)
	wantChain(t, ups(-1, 0, 1, 2, 4), 4)
	wantChain(t, ups(-1, 0, 1, 2, 5), 4)
}

// TestOthersOnTheWay: a wrong Up of a link that isn't on the way to n says nothing of n.
func TestOthersOnTheWay(t *testing.T) { // P17.2
	for _, up := range []int{1, 2, 3, -2} {
		l := ups(-1, up, 0, up, 2)
		wantChain(t, l, 4, 0, 2, 4)
	}
}

// TestShortChainsWhole has all lists of up to four links with an Up from -2 to their number.
func TestShortChainsWhole(t *testing.T) { // P17.2
	var l []api.Link
	var all func()
	all = func() {
		for n := -2; n < len(l)+2; n++ {
			wantChain(t, l, n, chainOf(l, n)...)
		}
		if len(l) == 4 {
			return
		}
		for up := -2; up <= 4; up++ {
			l = append(l, link(up, len(l)))
			all()
			l = l[:len(l)-1]
		}
	}
	all()
}

func TestLongWay(t *testing.T) { // P17.2, P1
	l := make([]api.Link, 1000000)
	for n := range l {
		l[n].Up = n - 1
	}
	chain := Chain(l, len(l)-1)
	for n, at := range chain {
		if n != at {
			t.Fatal(n, at)
		}
	}
	if len(chain) != len(l) {
		t.Error(len(chain))
	}
	l[0].Up = 0
	wantNone := Chain(l, len(l)-1)
	if len(wantNone) != 0 {
		t.Error(len(wantNone))
	}
}
