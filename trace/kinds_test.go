package trace

import (
	"testing"

	"swath/api"
)

// wantKind wants what is told of an operation's number.
func wantKind(t *testing.T, op int, makes, may bool, args int) {
	t.Helper()
	if Makes(op) != makes || May(op) != may || Args(op) != args {
		t.Error(op, Makes(op), May(op), Args(op))
	}
}

func TestEveryOperationOfTheTable(t *testing.T) { // P16.3
	if len(lines) != 23 {
		t.Fatal(len(lines))
	}
	for _, l := range lines {
		wantKind(t, l.op, l.makes, l.leaves, l.args)
	}
}

func TestNumbersThatAreNoOperations(t *testing.T) { // P16.3
	for _, op := range oddOps {
		wantKind(t, op, false, false, -1)
	}
	for op := -300; op <= 300; op++ {
		if _, is := lineOf(op); !is {
			wantKind(t, op, false, false, -1)
		}
	}
}

// TestKindsAsTheTableHasThem has some lines once more, as the chapter has them.
func TestKindsAsTheTableHasThem(t *testing.T) { // P16.3
	wantKind(t, api.InsBin, true, true, 2)
	wantKind(t, api.InsEq, true, false, 2)
	wantKind(t, api.InsSetElem, false, true, 3)
	wantKind(t, api.InsRoot, true, false, 0)
	wantKind(t, api.InsSetRoot, false, false, 1)
	wantKind(t, api.OpIs, false, true, 2)
	wantKind(t, api.OpLay, true, false, -1)
	wantKind(t, api.InsSize, false, false, -1)
	wantKind(t, api.InsMove, false, false, -1)
}
